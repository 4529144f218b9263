/- Several texts in one: GmFind, GmWord, GmLoad, GmCopy, GmRead, GmWrite, GmCheck, GmRef, GmRefF, CopyN, GmCopyR, GmNew, GmRefN, AppendOpt, GmRefM, SgConcat, GmRefP, GmRefW, GmWordsM, GmRefL, GmRefS, GmBad, GmNew0, GmKit, GmKit0, GmTwin, GmTwo, GmTwoA, GmTwoB, GmZero, GmRefI, Args2, GmArgs. -/
import Derived.Test.YtkejcdephnkkgaaRow
import Derived.Test.YtkejcdephnkkgaaHeld
import Derived.RegionTactic
import Derived.BigRegion
import Derived.LoopN
import Derived.LaidEqlPtr
import Derived.WalkSpells
import Derived.Lib.SliceRun
import Derived.Test.YtkejcdephnkkgaaLe
import Derived.OwnWalk
import Derived.Laws.CopyOwn
import Derived.Lib.AppendZerosOnto
import Derived.Lib.LazyBuf
import Derived.BigFrame
import Derived.Test.YtkejcdephnkkgaaAssert2
import Derived.Maps.AppendAt
import Derived.Great.BuildSlice
import Derived.Laws.AppendOwnNone
import Derived.Laws.BitsAllLaws
import Derived.Test.YtkejcdephnkkgaaArgs
import Derived.Deep.Slices
import Derived.Deep.Fields
import Derived.ChangeSame
import Derived.Lib.SmallJoins

/- Memory in regions: where a range lies. Contracts of end, valid, sort.Search with find's closure. -/
namespace Go.Proofs.Ytkejcdephnkkgaa.GmFind
open Go.RowKit Rw
set_option linter.unusedVariables false
set_option linter.unusedSimpArgs false

/-- Regions by number; where each begins in the bytes. -/
structure Rg where
  at_ : Nat → Int
  len : Nat → Int
  st : Nat → Int
def Rg.end_ (r : Rg) (i : Nat) : Int := r.at_ i + (r.len i - 1)
/-- A region's numbers. -/
structure Rg.In (r : Rg) (k : Nat) : Prop where
  a0 : ∀ i, i < k → 0 ≤ r.at_ i
  l0 : ∀ i, i < k → 1 ≤ r.len i
  e1 : ∀ i, i < k → r.end_ i ≤ 18446744073709551615
  up : ∀ i, i + 1 < k → r.end_ i < r.at_ (i + 1)
def Rg.cell (r : Rg) (k : Nat) : Value := if k % 2 = 0 then .int .u64 (r.at_ (k / 2)) else .int .u64 (r.len (k / 2))
theorem Rg.cell0 (r : Rg) (i : Nat) : r.cell (i * 2) = .int .u64 (r.at_ i) := by unfold Rg.cell; rw [if_pos (by omega)]; congr 2; omega
theorem Rg.cell1 (r : Rg) (i : Nat) : r.cell (i * 2 + 1) = .int .u64 (r.len i) := by unfold Rg.cell; rw [if_neg (by omega)]; congr 2; omega

/-- A memory's own block, its list of regions and where they begin. -/
structure MemAt (w : World) (m k g1 : Nat) (A2 A3 : Option Addr) (c1 c2 n3 c3 : Nat) (r : Rg) : Prop where
  self : w.cell? ⟨m, 0, none⟩ = some (.pointer (some ⟨m, 0, none⟩))
  regs : w.cell? ⟨m, 1, none⟩ = some (.slice (some ⟨g1, 0, none⟩) k c1)
  sts : w.cell? ⟨m, 2, none⟩ = some (.slice A2 k c2)
  bys : w.cell? ⟨m, 3, none⟩ = some (.slice A3 n3 c3)
  lt : m < w.heap.size
  lt1 : g1 < w.heap.size
  row1 : ∀ j, j < k * 2 → w.cell? ⟨g1, j, none⟩ = some (r.cell j)
  fz : ∀ b o, b < w.heap.size → (b = m ∨ b = g1) → w.frozen? ⟨b, o, none⟩ = false
  row2 : IsRow w w.heap.size 1 A2 k (fun j => .int .i64 (r.st j))
theorem MemAt.below {w w' : World} {m k g1 : Nat} {A2 A3 : Option Addr} {c1 c2 n3 c3 : Nat} {r : Rg} (h : MemAt w m k g1 A2 A3 c1 c2 n3 c3 r) (hb : Below w.heap.size w w') : MemAt w' m k g1 A2 A3 c1 c2 n3 c3 r :=
  ⟨(hb.cell (p := ⟨m, 0, none⟩) h.lt).trans h.self, (hb.cell (p := ⟨m, 1, none⟩) h.lt).trans h.regs, (hb.cell (p := ⟨m, 2, none⟩) h.lt).trans h.sts, (hb.cell (p := ⟨m, 3, none⟩) h.lt).trans h.bys, Nat.lt_of_lt_of_le h.lt hb.size, Nat.lt_of_lt_of_le h.lt1 hb.size,
    fun j hj => (hb.cell (p := ⟨g1, j, none⟩) h.lt1).trans (h.row1 j hj), fun b o _ he => by
      have hbl : b < w.heap.size := by rcases he with rfl | rfl; exact h.lt; exact h.lt1
      exact (hb.frozen (p := ⟨b, o, none⟩) hbl).trans (h.fz b o hbl he), (h.row2.below hb).more hb.size⟩

theorem end_any (a l : Int) (w : World) (h0 : 0 ≤ a) (h1 : 1 ≤ l) (h2 : a + (l - 1) ≤ 18446744073709551615) : Calls Try.prog 66 #[.agg #[.int .u64 a, .int .u64 l]] w fun e w' => e = .returned (.int .u64 (a + (l - 1))) ∧ Below w.heap.size w w' := by
  have h3 : l - 1 ≤ 18446744073709551615 := by omega
  go_enter Try.func66, Try.ntmps66
  go_wp2
  go_ret
  exact ⟨rfl, by go_grown⟩

set_option maxRecDepth 100000 in
theorem valid_any (m : Nat) (w : World) (h : w.cell? ⟨m, 0, none⟩ = some (.pointer (some ⟨m, 0, none⟩))) : Calls Try.prog 56 #[.pointer (some ⟨m, 0, none⟩)] w fun e w' => e = .returned (.bool true) ∧ w = w' := by
  obtain ⟨i0, hi, _⟩ := Option.map_eq_some_iff.1 (show (Try.prog.info? 78).map (fun _ => ()) = some () from by kernel_rfl)
  have hq := fun W => run_eql_ptr_same (P := Try.prog) W (tp := 28) ⟨m, 0, none⟩ Try.underlying28 hi
  clear hi
  go_enter Try.func56, Try.ntmps56
  go_wp2
  go_ret
  exact ⟨rfl, rfl⟩

set_option maxRecDepth 100000 in
set_option maxHeartbeats 1000000 in
theorem closure_any (i k m g1 ba bm : Nat) (at_ : Int) {A2 A3 : Option Addr} {c1 c2 n3 c3 : Nat} (r : Rg) (w : World) (hi : i < k) (hr : r.In k) (h : MemAt w m k g1 A2 A3 c1 c2 n3 c3 r)
    (ha : w.cell? ⟨ba, 0, none⟩ = some (.int .u64 at_)) (hm : w.cell? ⟨bm, 0, none⟩ = some (.pointer (some ⟨m, 0, none⟩))) (hba : ba < w.heap.size) (hbm : bm < w.heap.size) (hfa : w.frozen? ⟨ba, 0, none⟩ = false) (hfm : w.frozen? ⟨bm, 0, none⟩ = false) :
    Calls Try.prog 74 #[.int .i64 i, .pointer (some ⟨ba, 0, none⟩), .pointer (some ⟨bm, 0, none⟩)] w fun e w' => e = .returned (.bool (decide (at_ ≤ r.end_ i))) ∧ Below w.heap.size w w' := by
  have hb0 : Below w.heap.size w w := Below.refl _ _
  obtain ⟨h1, h2, h3, h4, h5, h6, h7, h8, h9⟩ := h
  have d0 : w.cell? ⟨g1, i * 2, none⟩ = some (.int .u64 (r.at_ i)) := (h7 _ (by omega)).trans (by rw [Rg.cell0])
  have d1 : w.cell? ⟨g1, i * 2 + 1, none⟩ = some (.int .u64 (r.len i)) := (h7 _ (by omega)).trans (by rw [Rg.cell1])
  have z0 : w.frozen? ⟨m, 0, none⟩ = false := h8 m 0 h5 (.inl rfl)
  have z1 : w.frozen? ⟨m, 1, none⟩ = false := h8 m 1 h5 (.inl rfl)
  have z2 : w.frozen? ⟨g1, i * 2, none⟩ = false := h8 g1 _ h6 (.inr rfl)
  have z3 : w.frozen? ⟨g1, i * 2 + 1, none⟩ = false := h8 g1 _ h6 (.inr rfl)
  have g0 := hr.a0 i hi
  have g1' := hr.l0 i hi
  have g2 := hr.e1 i hi
  unfold Rg.end_ at g2 ⊢
  clear hr h7 h8 h9 h3 h4
  go_enter Try.func74, Try.ntmps74
  go_wp2_with fail
  refine Lib.wp_region_class (Lib.Held w _ [(ba, 0, (.int .u64 at_ : Value)), (bm, 0, (.pointer (some ⟨m, 0, none⟩) : Value)), (m, 0, (.pointer (some ⟨m, 0, none⟩) : Value)), (m, 1, (.slice (some ⟨g1, 0, none⟩) k c1 : Value)), (g1, i * 2, (.int .u64 (r.at_ i) : Value)), (g1, i * 2 + 1, (.int .u64 (r.len i) : Value))]) (by kernel_rfl) (by kernel_rfl) ⟨by go_grown, Below.refl _ _, ⟨by first | omega | go_size, by first | go_cell | (simp [*]; done), by first | (with_reducible assumption) | (go_simp; done) | (simp [*]; done)⟩, ⟨by first | omega | go_size, by first | go_cell | (simp [*]; done), by first | (with_reducible assumption) | (go_simp; done) | (simp [*]; done)⟩, ⟨by first | omega | go_size, by first | go_cell | (simp [*]; done), by first | (with_reducible assumption) | (go_simp; done) | (simp [*]; done)⟩, ⟨by first | omega | go_size, by first | go_cell | (simp [*]; done), by first | (with_reducible assumption) | (go_simp; done) | (simp [*]; done)⟩, ⟨by first | omega | go_size, by first | go_cell | (simp [*]; done), by first | (with_reducible assumption) | (go_simp; done) | (simp [*]; done)⟩, ⟨by first | omega | go_size, by first | go_cell | (simp [*]; done), by first | (with_reducible assumption) | (go_simp; done) | (simp [*]; done)⟩, trivial⟩ ?_
  repeat (first | go_big_quiet_step ((intro hq; first | rfl | (go_at_call 66; exact Lib.Held.call hq (end_any _ _ _ g0 g1' g2)) | (have hq' := hq; obtain ⟨hbq, heq, ⟨hkq_0, hlq_0, hzq_0⟩, ⟨hkq_1, hlq_1, hzq_1⟩, ⟨hkq_2, hlq_2, hzq_2⟩, ⟨hkq_3, hlq_3, hzq_3⟩, ⟨hkq_4, hlq_4, hzq_4⟩, ⟨hkq_5, hlq_5, hzq_5⟩, _⟩ := hq'; go_simp; rfl))) | quiet_step ((intro hq; first | rfl | (go_at_call 66; exact Lib.Held.call hq (end_any _ _ _ g0 g1' g2)) | (have hq' := hq; obtain ⟨hbq, heq, ⟨hkq_0, hlq_0, hzq_0⟩, ⟨hkq_1, hlq_1, hzq_1⟩, ⟨hkq_2, hlq_2, hzq_2⟩, ⟨hkq_3, hlq_3, hzq_3⟩, ⟨hkq_4, hlq_4, hzq_4⟩, ⟨hkq_5, hlq_5, hzq_5⟩, _⟩ := hq'; go_simp; rfl))))
  refine wpQuiet_nil ?_
  intro W1 hq1
  obtain ⟨hb1, he1, ⟨hk1_0, hl1_0, hz1_0⟩, ⟨hk1_1, hl1_1, hz1_1⟩, ⟨hk1_2, hl1_2, hz1_2⟩, ⟨hk1_3, hl1_3, hz1_3⟩, ⟨hk1_4, hl1_4, hz1_4⟩, ⟨hk1_5, hl1_5, hz1_5⟩, _⟩ := hq1
  have hs1 := he1.size
  try simp only [World.size_alloc, World.size_setCell, World.size_drew] at hs1
  go_wp2_with fail
  go_ret
  exact ⟨rfl, hb1⟩

theorem Rg.In.mono {r : Rg} {k : Nat} (h : r.In k) : ∀ (d i : Nat), i + d < k → r.end_ i ≤ r.end_ (i + d)
  | 0, i, _ => Int.le_refl _
  | d + 1, i, hi => by
    have h1 := h.mono d i (by omega)
    have h2 := h.up (i + d) (by omega)
    have h3 := h.l0 (i + d + 1) (by omega)
    have h4 : r.end_ (i + (d + 1)) = r.at_ (i + d + 1) + (r.len (i + d + 1) - 1) := rfl
    omega
theorem Rg.In.mono' {r : Rg} {k : Nat} (h : r.In k) {i j : Nat} (hij : i ≤ j) (hj : j < k) : r.end_ i ≤ r.end_ j := by
  have := h.mono (j - i) i (by omega)
  rwa [show i + (j - i) = j from by omega] at this

set_option maxRecDepth 100000 in
set_option maxHeartbeats 2000000 in
theorem search_any (k m g1 ba bm : Nat) (at_ : Int) {A2 A3 : Option Addr} {c1 c2 n3 c3 : Nat} (r : Rg) (w : World) (hk : k ≤ 1000000) (hr : r.In k) (h : MemAt w m k g1 A2 A3 c1 c2 n3 c3 r)
    (ha : w.cell? ⟨ba, 0, none⟩ = some (.int .u64 at_)) (hm : w.cell? ⟨bm, 0, none⟩ = some (.pointer (some ⟨m, 0, none⟩))) (hba : ba < w.heap.size) (hbm : bm < w.heap.size) (hfa : w.frozen? ⟨ba, 0, none⟩ = false) (hfm : w.frozen? ⟨bm, 0, none⟩ = false) :
    Calls Try.prog 73 #[.int .i64 k, .func (.func 74) #[] #[.pointer (some ⟨ba, 0, none⟩), .pointer (some ⟨bm, 0, none⟩)]] w fun e w' => ∃ i : Nat, e = .returned (.int .i64 i) ∧ i ≤ k ∧ (∀ j, j < i → r.end_ j < at_) ∧ (i < k → at_ ≤ r.end_ i) ∧ Below w.heap.size w w' := by
  go_enter Try.func73, Try.ntmps73
  go_wp2_with fail
  go_loopw [5, 6, 7] (fun x y z wr => ∃ lo hi : Nat, lo ≤ hi ∧ hi ≤ k ∧ x = .int .i64 lo ∧ y = .int .i64 hi ∧ (∀ j, j < lo → r.end_ j < at_) ∧ (hi < k → at_ ≤ r.end_ hi) ∧ Below w.heap.size w wr) (fun x y z wr => (intOf y).toNat - (intOf x).toNat)
  case atStart => exact ⟨0, k, by omega, by omega, rfl, rfl, fun j hj => by omega, fun h => by omega, Below.refl _ _⟩
  case round =>
    obtain ⟨lo, hi, hl, hh, rfl, rfl, hlo, hhi, hb⟩ := hrel
    have HLO := Lib.hid hlo
    have HHI := Lib.hid hhi
    clear hlo hhi
    by_cases hlt : lo < hi
    · obtain ⟨q, hq⟩ : ∃ q, (lo + hi) / 2 = q := ⟨_, rfl⟩
      have hq1 : lo ≤ q := by omega
      have hq2 : q < hi := by omega
      have hwm := h.below hb
      have hcl := closure_any q k m g1 ba bm at_ r wr (by omega) hr hwm ((hb.cell (p := ⟨ba, 0, none⟩) hba).trans ha) ((hb.cell (p := ⟨bm, 0, none⟩) hbm).trans hm) (Nat.lt_of_lt_of_le hba hb.size) (Nat.lt_of_lt_of_le hbm hb.size) ((hb.frozen (p := ⟨ba, 0, none⟩) hba).trans hfa) ((hb.frozen (p := ⟨bm, 0, none⟩) hbm).trans hfm)
      have hqi : ((lo : Int) + hi) / 2 = q := by omega
      have HC := Lib.hid hcl
      clear hcl hwm
      go_wp2_with fail
      refine HC.out.mono ?_
      rintro e W1 ⟨rfl, hb1⟩
      have hb2 := hb.trans (hb1.mono hb.size)
      clear HC hq
      by_cases hcc : at_ ≤ r.end_ q
      · rw [show decide (at_ ≤ r.end_ q) = true from by simpa using hcc]
        have HCC := Lib.hid hcc
        clear hcc
        go_wp2_with fail
        go_roundw
        case rel => exact ⟨lo, q, by omega, by omega, rfl, rfl, HLO.out, fun _ => HCC.out, hb2⟩
        case measure => simp [intOf]; omega
      · rw [show decide (at_ ≤ r.end_ q) = false from by simpa using hcc]
        have HCC := Lib.hid hcc
        clear hcc
        go_wp2_with fail
        go_roundw
        case rel => exact ⟨q + 1, hi, by omega, by omega, by go_num, rfl, fun j hj => by
          have h1 := hr.mono' (i := j) (j := q) (by omega) (by omega)
          have h2 := HCC.out
          omega, HHI.out, hb2⟩
        case measure => simp [intOf]; omega
    · obtain rfl : lo = hi := by omega
      go_wp2_with fail
      go_ret
      exact ⟨lo, rfl, hh, HLO.out, HHI.out, hb⟩

/-- Where regions lie in the bytes. -/
def Rg.Fits (r : Rg) (k n3 : Nat) : Prop := ∀ i, i < k → 0 ≤ r.st i ∧ r.st i + r.len i ≤ n3
/-- What find answers, the region being known. -/
def okB (r : Rg) (k i : Nat) (at_ n : Int) : Bool := decide (i < k) && decide (r.at_ i ≤ at_) && decide (1 ≤ n) && decide (n - 1 ≤ r.end_ i - at_)

set_option maxRecDepth 100000 in
set_option maxHeartbeats 4000000 in
theorem find_any (k m g1 b3 : Nat) (at_ n : Int) {A2 : Option Addr} {c1 c2 n3 c3 : Nat} (r : Rg) (w : World) (hk : k ≤ 1000000) (hr : r.In k) (hf : r.Fits k n3) (hn3 : n3 ≤ c3) (hn3' : n3 ≤ 1000000000) (h : MemAt w m k g1 A2 (some ⟨b3, 0, none⟩) c1 c2 n3 c3 r)
    (ha0 : 0 ≤ at_) (ha1 : at_ ≤ 18446744073709551615) (h0 : 0 ≤ n) (h1 : n ≤ 18446744073709551615) :
    Calls Try.prog 67 #[.pointer (some ⟨m, 0, none⟩), .int .u64 at_, .int .u64 n] w fun e w' => ∃ i : Nat, i ≤ k ∧ (∀ j, j < i → r.end_ j < at_) ∧ (i < k → at_ ≤ r.end_ i) ∧ Below w.heap.size w w' ∧
      e = .returned (if okB r k i at_ n = true then .slice (some ⟨b3, (r.st i + (at_ - r.at_ i)).toNat, none⟩) n.toNat (c3 - (r.st i + (at_ - r.at_ i)).toNat) else .slice none 0 0) := by
  have hb0 : Below w.heap.size w w := Below.refl _ _
  have hself := h.self
  have hregs := h.regs
  have hsts := h.sts
  have hbys := h.bys
  have hlt := h.lt
  go_enter Try.func67, Try.ntmps67
  go_wp2_with fail
  have hB : Below w.heap.size w ((w.alloc (.cells #[.pointer (some ⟨m, 0, none⟩)] 28)).alloc (.cells #[.int .u64 at_] 25)) := by go_grown
  have hM := h.below hB
  (with_reducible refine (search_any k m g1 (w.heap.size + 1) w.heap.size at_ r _ hk hr hM (by go_cell) (by go_cell) (by go_size) (by go_size) (by go_simp) (by go_simp)).mono ?_)
  rintro e W1 ⟨i, rfl, hi, hlo, hhi, hg1⟩
  have HLO := Lib.hid hlo
  have HHI := Lib.hid hhi
  clear hlo hhi
  have hM1 := hM.below hg1
  have y0 := hM.fz m 0 hM.lt (.inl rfl)
  have y1 := hM.fz m 1 hM.lt (.inl rfl)
  have y2 := hM.fz m 2 hM.lt (.inl rfl)
  have y3 := hM.fz m 3 hM.lt (.inl rfl)
  have hb1 : Below w.heap.size w W1 := (show Below w.heap.size w _ by go_grown).trans (hg1.mono (by first | omega | go_size))
  obtain ⟨hc1, hf1⟩ := bcell hg1
  have hs1 := hg1.size
  try simp only [World.size_alloc, World.size_setCell, World.size_drew] at hs1
  have hl1_0_0 : W1.cell? ⟨w.heap.size, 0, none⟩ = some (.pointer (some ⟨m, 0, none⟩)) := (hc1 _ _ (by first | omega | go_size)).trans (by first | (with_reducible assumption) | go_cell)
  have hz1_0_0 : W1.frozen? ⟨w.heap.size, 0, none⟩ = false := (hf1 _ _ (by first | omega | go_size)).trans (by first | (with_reducible assumption) | (go_simp; done) | (simp [*]; done))
  have hk1_0 : w.heap.size < W1.heap.size := by omega
  have hl1_1_0 : W1.cell? ⟨w.heap.size + 1, 0, none⟩ = some (.int .u64 at_) := (hc1 _ _ (by first | omega | go_size)).trans (by first | (with_reducible assumption) | go_cell)
  have hz1_1_0 : W1.frozen? ⟨w.heap.size + 1, 0, none⟩ = false := (hf1 _ _ (by first | omega | go_size)).trans (by first | (with_reducible assumption) | (go_simp; done) | (simp [*]; done))
  have hk1_1 : w.heap.size + 1 < W1.heap.size := by omega
  have hl1_2_0 : W1.cell? ⟨m, 0, none⟩ = some (.pointer (some ⟨m, 0, none⟩)) := (hc1 _ _ (by first | omega | go_size)).trans (by first | (with_reducible assumption) | go_cell)
  have hz1_2_0 : W1.frozen? ⟨m, 0, none⟩ = false := (hf1 _ _ (by first | omega | go_size)).trans (by first | (with_reducible assumption) | (go_simp; done) | (simp [*]; done))
  have hl1_2_1 : W1.cell? ⟨m, 1, none⟩ = some (.slice (some ⟨g1, 0, none⟩) k c1) := (hc1 _ _ (by first | omega | go_size)).trans (by first | (with_reducible assumption) | go_cell)
  have hz1_2_1 : W1.frozen? ⟨m, 1, none⟩ = false := (hf1 _ _ (by first | omega | go_size)).trans (by first | (with_reducible assumption) | (go_simp; done) | (simp [*]; done))
  have hl1_2_2 : W1.cell? ⟨m, 2, none⟩ = some (.slice A2 k c2) := (hc1 _ _ (by first | omega | go_size)).trans (by first | (with_reducible assumption) | go_cell)
  have hz1_2_2 : W1.frozen? ⟨m, 2, none⟩ = false := (hf1 _ _ (by first | omega | go_size)).trans (by first | (with_reducible assumption) | (go_simp; done) | (simp [*]; done))
  have hl1_2_3 : W1.cell? ⟨m, 3, none⟩ = some (.slice (some ⟨b3, 0, none⟩) n3 c3) := (hc1 _ _ (by first | omega | go_size)).trans (by first | (with_reducible assumption) | go_cell)
  have hz1_2_3 : W1.frozen? ⟨m, 3, none⟩ = false := (hf1 _ _ (by first | omega | go_size)).trans (by first | (with_reducible assumption) | (go_simp; done) | (simp [*]; done))
  have hk1_2 : m < W1.heap.size := by omega
  clear hg1 hc1 hf1
  go_wp2_with fail
  clear y0 y1 y2 y3
  obtain ⟨_, _, _, _, _, mg1, mrow, mfz, mrow2⟩ := hM1
  by_cases hik : i < k
  case neg =>
    have e1 : ((i : Int) == (k : Int)) = true := by simp; omega
    have HO := Lib.hid (show okB r k i at_ n = false from by unfold okB; simp [hik])
    clear hM mrow mrow2 mfz
    go_region
    go_wp2
    go_ret
    exact ⟨i, hi, HLO.out, HHI.out, hb1.drew, by rw [HO.out]; rfl⟩
  have e1 : ((i : Int) == (k : Int)) = false := by simp; omega
  have d0 : W1.cell? ⟨g1, i * 2, none⟩ = some (.int .u64 (r.at_ i)) := (mrow _ (by omega)).trans (by rw [Rg.cell0])
  have d1 : W1.cell? ⟨g1, i * 2 + 1, none⟩ = some (.int .u64 (r.len i)) := (mrow _ (by omega)).trans (by rw [Rg.cell1])
  have z2 : W1.frozen? ⟨g1, i * 2, none⟩ = false := mfz g1 _ mg1 (.inr rfl)
  have z3 : W1.frozen? ⟨g1, i * 2 + 1, none⟩ = false := mfz g1 _ mg1 (.inr rfl)
  obtain ⟨ad2, hA2, hab, hacell⟩ := mrow2 (by omega)
  have d2 : W1.cell? (ad2.add i) = some (.int .i64 (r.st i)) := hacell i (by omega)
  have q0 := hr.a0 i hik
  have q1 := hr.l0 i hik
  have q2 := hr.e1 i hik
  obtain ⟨q3, q4⟩ := hf i hik
  have q5 := HHI.out hik
  clear hM mrow mrow2 mfz hacell
  by_cases hat : r.at_ i ≤ at_
  case neg =>
    have HO := Lib.hid (show okB r k i at_ n = false from by unfold okB; simp [hat])
    go_region
    go_wp2
    go_ret
    exact ⟨i, hi, HLO.out, HHI.out, hb1.drew, by rw [HO.out]; rfl⟩
  go_region
  go_wp2_with fail
  by_cases hn0 : n = 0
  case pos =>
    subst hn0
    have HO := Lib.hid (show okB r k i at_ 0 = false from by unfold okB; simp)
    refine Lib.wp_region_class (Lib.Held w _ [] ) (by kernel_rfl) (by kernel_rfl) ⟨by go_grown, Below.refl _ _, trivial⟩ ?_
    repeat (first | go_big_quiet_step ((intro hq; first | rfl | (go_simp; rfl))) | quiet_step ((intro hq; first | rfl | (go_simp; rfl))))
    refine wpQuiet_nil ?_
    intro W2 hq2
    go_wp2
    go_ret
    exact ⟨i, hi, HLO.out, HHI.out, hq2.1, by rw [HO.out]; rfl⟩
  have hn1 : 1 ≤ n := by omega
  have en : ((n : Int) == 0) = false := by simp; omega
  unfold Rg.end_ at q2 q5
  have w1 : IntKind.u64.wrap (n - 1) = n - 1 := by rw [IntKind.wrap_u64]; omega
  have w2 : IntKind.u64.wrap (r.at_ i + (r.len i - 1) - at_) = r.at_ i + (r.len i - 1) - at_ := by rw [IntKind.wrap_u64]; omega
  by_cases hle : n - 1 ≤ r.at_ i + (r.len i - 1) - at_
  case neg =>
    have HO := Lib.hid (show okB r k i at_ n = false from by unfold okB Rg.end_; simp [hle])
    have hgt : decide (r.at_ i + (r.len i - 1) - at_ < n - 1) = true := by simp; omega
    refine Lib.wp_region_class (Lib.Held w _ [(w.heap.size, 0, (.pointer (some ⟨m, 0, none⟩) : Value)), (w.heap.size + 1, 0, (.int .u64 at_ : Value)), (m, 0, (.pointer (some ⟨m, 0, none⟩) : Value)), (m, 1, (.slice (some ⟨g1, 0, none⟩) k c1 : Value)), (m, 2, (.slice A2 k c2 : Value)), (m, 3, (.slice (some ⟨b3, 0, none⟩) n3 c3 : Value)), (g1, i * 2, (.int .u64 (r.at_ i) : Value)), (g1, i * 2 + 1, (.int .u64 (r.len i) : Value))]) (by kernel_rfl) (by kernel_rfl) ⟨by go_grown, Below.refl _ _, ⟨by first | omega | go_size, by first | go_cell | (simp [*]; done), by first | (with_reducible assumption) | (go_simp; done) | (simp [*]; done)⟩, ⟨by first | omega | go_size, by first | go_cell | (simp [*]; done), by first | (with_reducible assumption) | (go_simp; done) | (simp [*]; done)⟩, ⟨by first | omega | go_size, by first | go_cell | (simp [*]; done), by first | (with_reducible assumption) | (go_simp; done) | (simp [*]; done)⟩, ⟨by first | omega | go_size, by first | go_cell | (simp [*]; done), by first | (with_reducible assumption) | (go_simp; done) | (simp [*]; done)⟩, ⟨by first | omega | go_size, by first | go_cell | (simp [*]; done), by first | (with_reducible assumption) | (go_simp; done) | (simp [*]; done)⟩, ⟨by first | omega | go_size, by first | go_cell | (simp [*]; done), by first | (with_reducible assumption) | (go_simp; done) | (simp [*]; done)⟩, ⟨by first | omega | go_size, by first | go_cell | (simp [*]; done), by first | (with_reducible assumption) | (go_simp; done) | (simp [*]; done)⟩, ⟨by first | omega | go_size, by first | go_cell | (simp [*]; done), by first | (with_reducible assumption) | (go_simp; done) | (simp [*]; done)⟩, trivial⟩ ?_
    repeat (first | go_big_quiet_step ((intro hq; first | rfl | (go_at_call 66; exact Lib.Held.call hq (end_any _ _ _ q0 q1 q2)) | (have hq' := hq; obtain ⟨hbq, heq, ⟨hkq_0, hlq_0, hzq_0⟩, ⟨hkq_1, hlq_1, hzq_1⟩, ⟨hkq_2, hlq_2, hzq_2⟩, ⟨hkq_3, hlq_3, hzq_3⟩, ⟨hkq_4, hlq_4, hzq_4⟩, ⟨hkq_5, hlq_5, hzq_5⟩, ⟨hkq_6, hlq_6, hzq_6⟩, ⟨hkq_7, hlq_7, hzq_7⟩, _⟩ := hq'; go_simp; rfl))) | quiet_step ((intro hq; first | rfl | (go_at_call 66; exact Lib.Held.call hq (end_any _ _ _ q0 q1 q2)) | (have hq' := hq; obtain ⟨hbq, heq, ⟨hkq_0, hlq_0, hzq_0⟩, ⟨hkq_1, hlq_1, hzq_1⟩, ⟨hkq_2, hlq_2, hzq_2⟩, ⟨hkq_3, hlq_3, hzq_3⟩, ⟨hkq_4, hlq_4, hzq_4⟩, ⟨hkq_5, hlq_5, hzq_5⟩, ⟨hkq_6, hlq_6, hzq_6⟩, ⟨hkq_7, hlq_7, hzq_7⟩, _⟩ := hq'; go_simp; rfl))))
    refine wpQuiet_nil ?_
    intro W2 hq2
    obtain ⟨hb2, he2, ⟨hk2_0, hl2_0, hz2_0⟩, ⟨hk2_1, hl2_1, hz2_1⟩, ⟨hk2_2, hl2_2, hz2_2⟩, ⟨hk2_3, hl2_3, hz2_3⟩, ⟨hk2_4, hl2_4, hz2_4⟩, ⟨hk2_5, hl2_5, hz2_5⟩, ⟨hk2_6, hl2_6, hz2_6⟩, ⟨hk2_7, hl2_7, hz2_7⟩, _⟩ := hq2
    have hs2 := he2.size
    try simp only [World.size_alloc, World.size_setCell, World.size_drew] at hs2
    go_wp2_with fail
    go_ret
    exact ⟨i, hi, HLO.out, HHI.out, hb2, by rw [HO.out]; rfl⟩
  have hgt : decide (r.at_ i + (r.len i - 1) - at_ < n - 1) = false := by simp; omega
  have HO := Lib.hid (show okB r k i at_ n = true from by unfold okB Rg.end_; simp [hik, hat, hn1, hle])
  refine Lib.wp_region_class (Lib.Held w _ [(w.heap.size, 0, (.pointer (some ⟨m, 0, none⟩) : Value)), (w.heap.size + 1, 0, (.int .u64 at_ : Value)), (m, 0, (.pointer (some ⟨m, 0, none⟩) : Value)), (m, 1, (.slice (some ⟨g1, 0, none⟩) k c1 : Value)), (m, 2, (.slice A2 k c2 : Value)), (m, 3, (.slice (some ⟨b3, 0, none⟩) n3 c3 : Value)), (g1, i * 2, (.int .u64 (r.at_ i) : Value)), (g1, i * 2 + 1, (.int .u64 (r.len i) : Value))]) (by kernel_rfl) (by kernel_rfl) ⟨by go_grown, Below.refl _ _, ⟨by first | omega | go_size, by first | go_cell | (simp [*]; done), by first | (with_reducible assumption) | (go_simp; done) | (simp [*]; done)⟩, ⟨by first | omega | go_size, by first | go_cell | (simp [*]; done), by first | (with_reducible assumption) | (go_simp; done) | (simp [*]; done)⟩, ⟨by first | omega | go_size, by first | go_cell | (simp [*]; done), by first | (with_reducible assumption) | (go_simp; done) | (simp [*]; done)⟩, ⟨by first | omega | go_size, by first | go_cell | (simp [*]; done), by first | (with_reducible assumption) | (go_simp; done) | (simp [*]; done)⟩, ⟨by first | omega | go_size, by first | go_cell | (simp [*]; done), by first | (with_reducible assumption) | (go_simp; done) | (simp [*]; done)⟩, ⟨by first | omega | go_size, by first | go_cell | (simp [*]; done), by first | (with_reducible assumption) | (go_simp; done) | (simp [*]; done)⟩, ⟨by first | omega | go_size, by first | go_cell | (simp [*]; done), by first | (with_reducible assumption) | (go_simp; done) | (simp [*]; done)⟩, ⟨by first | omega | go_size, by first | go_cell | (simp [*]; done), by first | (with_reducible assumption) | (go_simp; done) | (simp [*]; done)⟩, trivial⟩ ?_
  repeat (first | go_big_quiet_step ((intro hq; first | rfl | (go_at_call 66; exact Lib.Held.call hq (end_any _ _ _ q0 q1 q2)) | (have hq' := hq; obtain ⟨hbq, heq, ⟨hkq_0, hlq_0, hzq_0⟩, ⟨hkq_1, hlq_1, hzq_1⟩, ⟨hkq_2, hlq_2, hzq_2⟩, ⟨hkq_3, hlq_3, hzq_3⟩, ⟨hkq_4, hlq_4, hzq_4⟩, ⟨hkq_5, hlq_5, hzq_5⟩, ⟨hkq_6, hlq_6, hzq_6⟩, ⟨hkq_7, hlq_7, hzq_7⟩, _⟩ := hq'; go_simp; rfl))) | quiet_step ((intro hq; first | rfl | (go_at_call 66; exact Lib.Held.call hq (end_any _ _ _ q0 q1 q2)) | (have hq' := hq; obtain ⟨hbq, heq, ⟨hkq_0, hlq_0, hzq_0⟩, ⟨hkq_1, hlq_1, hzq_1⟩, ⟨hkq_2, hlq_2, hzq_2⟩, ⟨hkq_3, hlq_3, hzq_3⟩, ⟨hkq_4, hlq_4, hzq_4⟩, ⟨hkq_5, hlq_5, hzq_5⟩, ⟨hkq_6, hlq_6, hzq_6⟩, ⟨hkq_7, hlq_7, hzq_7⟩, _⟩ := hq'; go_simp; rfl))))
  refine wpQuiet_nil ?_
  intro W2 hq2
  obtain ⟨hb2, he2, ⟨hk2_0, hl2_0, hz2_0⟩, ⟨hk2_1, hl2_1, hz2_1⟩, ⟨hk2_2, hl2_2, hz2_2⟩, ⟨hk2_3, hl2_3, hz2_3⟩, ⟨hk2_4, hl2_4, hz2_4⟩, ⟨hk2_5, hl2_5, hz2_5⟩, ⟨hk2_6, hl2_6, hz2_6⟩, ⟨hk2_7, hl2_7, hz2_7⟩, _⟩ := hq2
  have hs2 := he2.size
  try simp only [World.size_alloc, World.size_setCell, World.size_drew] at hs2
  go_wp2_with fail
  have d2' : W2.cell? (ad2.add i) = .some (.int .i64 (r.st i)) := by
    have hx := he2.cell (p := ad2.add i) (show (ad2.add i).block < W1.heap.size from by rw [show (ad2.add i).block = ad2.block from by unfold Addr.add; split <;> rfl]; exact hab)
    rw [hx]
    exact d2
  clear d2 hs1 hl1_0_0 hz1_0_0 hk1_0 hl1_1_0 hz1_1_0 hk1_1 hl1_2_0 hz1_2_0 hl1_2_1 hz1_2_1 hl1_2_2 hz1_2_2 hl1_2_3 hz1_2_3 hk1_2
  obtain ⟨fn, hfn⟩ : ∃ x : Nat, r.st i + (at_ - r.at_ i) = (x : Int) := ⟨(r.st i + (at_ - r.at_ i)).toNat, by omega⟩
  obtain ⟨nn, rfl⟩ : ∃ x : Nat, n = (x : Int) := ⟨n.toNat, by omega⟩
  have w3 : IntKind.u64.wrap (at_ - r.at_ i) = at_ - r.at_ i := by rw [IntKind.wrap_u64]; omega
  subst hA2
  go_region
  go_wp2_with fail
  have hz : fn + nn - fn = nn := by omega
  go_ret
  refine ⟨i, hi, HLO.out, HHI.out, hb2.drew, ?_⟩
  rw [HO.out, hfn, if_pos rfl]
  show Ending.returned (Value.slice (some ⟨b3, fn, none⟩) (fn + nn - fn) (c3 - fn)) = Ending.returned (.slice (some ⟨b3, fn, none⟩) nn (c3 - fn))
  rw [hz]

end Go.Proofs.Ytkejcdephnkkgaa.GmFind

/- Memory in regions: find's answer as a function; word; Has. -/
namespace Go.Proofs.Ytkejcdephnkkgaa.GmWord
open Go.RowKit Rw GmFind
set_option linter.unusedVariables false
set_option linter.unusedSimpArgs false

def Gives (B : Nat) (w : World) (v : Value) (e : Ending) (w' : World) : Prop := e = .returned v ∧ Below B w w'

/-- The first region that does not end before the address. -/
def idx (r : Rg) (at_ : Int) : Nat → Nat
  | 0 => 0
  | k + 1 => if idx r at_ k < k then idx r at_ k else if at_ ≤ r.end_ k then k else k + 1
theorem idx_eq (r : Rg) (at_ : Int) : ∀ (k i : Nat), i ≤ k → (∀ j, j < i → r.end_ j < at_) → (i < k → at_ ≤ r.end_ i) → idx r at_ k = i
  | 0, i, h1, _, _ => by unfold idx; omega
  | k + 1, i, h1, h2, h3 => by
    unfold idx
    by_cases hik : i ≤ k
    · rw [idx_eq r at_ k i hik h2 (fun h => h3 (by omega))]
      by_cases hl : i < k
      · rw [if_pos hl]
      · obtain rfl : i = k := by omega
        rw [if_neg hl, if_pos (h3 (by omega))]
    · obtain rfl : i = k + 1 := by omega
      rw [idx_eq r at_ k k (by omega) (fun j hj => h2 j (by omega)) (fun h => by omega), if_neg (by omega), if_neg (by have := h2 k (by omega); omega)]
/-- Where n bytes at an address begin, if they are all in one region. -/
def place (r : Rg) (k : Nat) (at_ n : Int) : Option Nat :=
  if okB r k (idx r at_ k) at_ n = true then some (r.st (idx r at_ k) + (at_ - r.at_ (idx r at_ k))).toNat else none
/-- A part of the bytes. -/
def partV (b3 c3 : Nat) (n : Int) : Option Nat → Value
  | some o => .slice (some ⟨b3, o, none⟩) n.toNat (c3 - o)
  | none => .slice none 0 0

theorem find_of (k m g1 b3 : Nat) (at_ n : Int) {A2 : Option Addr} {c1 c2 n3 c3 : Nat} (r : Rg) (w : World) (hk : k ≤ 1000000) (hr : r.In k) (hf : r.Fits k n3) (hn3 : n3 ≤ c3) (hn3' : n3 ≤ 1000000000) (h : MemAt w m k g1 A2 (some ⟨b3, 0, none⟩) c1 c2 n3 c3 r)
    (ha0 : 0 ≤ at_) (ha1 : at_ ≤ 18446744073709551615) (h0 : 0 ≤ n) (h1 : n ≤ 18446744073709551615) :
    Calls Try.prog 67 #[.pointer (some ⟨m, 0, none⟩), .int .u64 at_, .int .u64 n] w (Gives w.heap.size w (partV b3 c3 n (place r k at_ n))) := by
  refine (find_any k m g1 b3 at_ n r w hk hr hf hn3 hn3' h ha0 ha1 h0 h1).mono ?_
  rintro e W ⟨i, hi, hlo, hhi, hb, rfl⟩
  refine ⟨?_, hb⟩
  unfold place
  rw [idx_eq r at_ k i hi hlo hhi]
  by_cases ho : okB r k i at_ n = true
  · rw [if_pos ho, if_pos ho]; rfl
  · rw [if_neg ho, if_neg ho]; rfl

/-- What word answers. -/
def wordV (b3 c3 : Nat) (n : Int) : Option Nat → Value
  | some o => .tuple #[.slice (some ⟨b3, o, none⟩) n.toNat (c3 - o), .int .i64 0]
  | none => .tuple #[.slice none 0 0, .int .i64 5]

set_option maxRecDepth 100000 in
set_option maxHeartbeats 4000000 in
theorem has_any (k m g1 b3 : Nat) (at_ nb : Int) {A2 : Option Addr} {c1 c2 n3 c3 : Nat} (r : Rg) (w : World) (hk : k ≤ 1000000) (hr : r.In k) (hf : r.Fits k n3) (hn3 : n3 ≤ c3) (hn3' : n3 ≤ 1000000000) (h : MemAt w m k g1 A2 (some ⟨b3, 0, none⟩) c1 c2 n3 c3 r)
    (ha0 : 0 ≤ at_) (ha1 : at_ ≤ 18446744073709551615) (hn0 : 0 ≤ nb) (hn1 : nb ≤ 18446744073709551615) :
    Calls Try.prog 47 #[.pointer (some ⟨m, 0, none⟩), .int .u64 at_, .int .u64 nb] w (Gives w.heap.size w (.bool (place r k at_ nb).isSome)) := by
  have hself := h.self
  have HF := Lib.hid (find_of k m g1 b3 at_ nb r w hk hr hf hn3 hn3' h ha0 ha1 (by omega) (by omega))
  clear h hr hf
  generalize place r k at_ nb = o at HF ⊢
  go_enter Try.func47, Try.ntmps47
  have hq1 := fun W a n c => run_neq_slice_nil_any (P := Try.prog) W 24 5 a n c 0 0 Try.underlying24
  go_wp2_with fail
  refine (valid_any m _ hself).mono ?_
  rintro e W ⟨rfl, rfl⟩
  go_wp2_with fail
  refine HF.out.mono ?_
  rintro e W1 ⟨he, hb1⟩
  clear HF
  cases o with
  | none =>
    obtain rfl : e = .returned (.slice none 0 0) := he
    go_wp2_with fail
    go_ret
    exact ⟨rfl, by go_grown⟩
  | some o =>
    obtain rfl : e = .returned (.slice (some ⟨b3, o, none⟩) _ (c3 - o)) := he
    go_wp2_with fail
    go_ret
    exact ⟨rfl, by go_grown⟩

end Go.Proofs.Ytkejcdephnkkgaa.GmWord

/- Memory in regions: Load, Store. -/
namespace Go.Proofs.Ytkejcdephnkkgaa.GmLoad
open Go.RowKit Rw GmFind GmWord Le
set_option linter.unusedVariables false
set_option linter.unusedSimpArgs false

/-- A place lies in the bytes. -/
theorem place_fits {r : Rg} {k n3 : Nat} {at_ n : Int} {o : Nat} (hf : r.Fits k n3) (h : place r k at_ n = some o) : (o : Int) + n ≤ n3 ∧ 1 ≤ n := by
  unfold place at h
  by_cases ho : okB r k (idx r at_ k) at_ n = true
  · rw [if_pos ho] at h
    injection h with h
    unfold okB Rg.end_ at ho
    simp only [Bool.and_eq_true, decide_eq_true_eq] at ho
    obtain ⟨⟨⟨h1, h2⟩, h3⟩, h4⟩ := ho
    obtain ⟨h5, h6⟩ := hf _ h1
    omega
  · rw [if_neg ho] at h
    exact absurd h (by simp)

/-- The bytes of a memory. -/
def By (w : World) (b3 n3 : Nat) (g : Nat → Int) : Prop := ∀ j, j < n3 → w.cell? ⟨b3, j, none⟩ = some (.int .u8 (g j))
/-- What Load answers. -/
def loadV (g : Nat → Int) (nb : Int) : Option Nat → Value
  | some o => .tuple #[.int .u64 (wordI (fun j => g (o + j)) nb.toNat), .int .i64 0]
  | none => .tuple #[.int .u64 0, .int .i64 5]

/-- The bytes with a word stored. -/
def stG (g : Nat → Int) (n : Nat) (v : Int) : Option Nat → Nat → Int
  | some o => fun j => if o ≤ j ∧ j < o + n then byteI v (j - o) else g j
  | none => g
/-- What Store answers. -/
def errV : Option Nat → Value
  | some _ => .int .i64 0
  | none => .int .i64 5
def stF (F : Nat → Value) (o n : Nat) (v : Int) : Nat → Value := fun j => if o ≤ j ∧ j < o + n then .int .u8 (byteI v (j - o)) else F j

end Go.Proofs.Ytkejcdephnkkgaa.GmLoad

/- Memory in regions: copied (bytes). -/
namespace Go.Proofs.Ytkejcdephnkkgaa.GmCopy
open Go.RowKit Rw GmFind GmWord GmLoad
set_option linter.unusedVariables false
set_option linter.unusedSimpArgs false

theorem u8info : ∃ i, Try.prog.info? 5 = some i ∧ i.zero = some (.int .u8 0) ∧ i.size = 1 ∧ i.bytes = 1 := by
  have h : (Try.prog.info? 5).map (fun i => (i.size, i.bytes)) = some (1, 1) := by kernel_rfl
  have h2 : (Try.prog.info? 5).map (fun i => match i.zero with | some (.int .u8 0) => true | _ => false) = some true := by kernel_rfl
  obtain ⟨i, hi, hs⟩ := Option.map_eq_some_iff.1 h
  obtain ⟨i', hi', hz⟩ := Option.map_eq_some_iff.1 h2
  rw [hi] at hi'
  obtain rfl : i = i' := by injection hi'
  refine ⟨i, hi, ?_, ?_, ?_⟩
  · revert hz
    split
    · rename_i e; intro _; exact e
    · intro h; cases h
  · injection hs
  · injection hs

set_option maxRecDepth 100000 in
set_option maxHeartbeats 4000000 in
theorem copied_u8 (A : Option Addr) (n c : Nat) (g : Nat → Int) (w : World) (hn : n ≤ 1000000000) (h : IsRow w w.heap.size 1 A n (fun j => .int .u8 (g j))) :
    Calls Try.prog 57 #[.slice A n c] w fun e w' => ∃ b, e = .returned (.slice (some ⟨b, 0, none⟩) n n) ∧ w.heap.size ≤ b ∧ w'.rowIs b 5 n (fun j => .int .u8 (g j)) ∧ Below w.heap.size w w' := by
  obtain ⟨i0, hi, hz0, hz1, hz2⟩ := u8info
  have H0 := Lib.hid hi
  have H1 := Lib.hid hz0
  have H2 := Lib.hid hz1
  have H3 := Lib.hid hz2
  clear hi hz0 hz1 hz2
  go_enter Try.func57, Try.ntmps57
  go_wp2_with (at_make; refine wpList_make_full _ rfl _ _ 24 rfl w.heap.size 5 i0 (.int .u8 0) 1 Try.underlying24 H0.out H1.out H2.out _ _ _ _ n rfl rfl rfl rfl (by rw [H3.out]; omega) (by unfold maxLen; omega) (Nat.le_refl _) ?_)
  intro w1 ho1 hg1
  obtain ⟨cur, hh, hsz⟩ : ∃ cur : Array Value, w1.heap[w.heap.size]? = some (.cells cur 5 (0, 0)) ∧ cur.size = n := by
    rcases ho1.2 with ⟨hx, _⟩ | ⟨g', cap, cur, he, _, hh, _, _, hsz, _⟩
    · cases hx
    · cases he
      exact ⟨cur, hh, by omega⟩
  have HH := Lib.hid hh
  have hb1 : Below w.heap.size w w1 := (Below.refl _ w).grown hg1 (Nat.le_refl _) (fun k e => by cases e)
  clear ho1 hg1 hh
  have HI := Lib.hid (h.below hb1)
  clear h
  obtain ⟨cs, hcs⟩ : ∃ cs : List Value, (List.range n).map (fun j => Value.int .u8 (g j)) = cs := ⟨_, rfl⟩
  have hlen : cs.length = n := by rw [← hcs]; simp
  have HCS := Lib.hid hcs
  clear hcs
  have E1 := Lib.hid (show (Try.prog.info? 5).map (·.size) = some 1 from by kernel_rfl)
  have E2 := Lib.hid (show w1.heap[w.heap.size]? = some (.cells cur.toList.toArray 5 (0, 0)) from HH.out)
  have E3 := Lib.hid (show cs.length = Nat.min n n from by rw [hlen]; exact (Nat.min_self n).symm)
  have E4 := Lib.hid (show 0 + cs.length ≤ cur.toList.length from by rw [hlen, Array.length_toList, hsz]; omega)
  have E5 := Lib.hid (show ∀ v ∈ cs, v.oneCell' = true from by
    intro v hv
    rw [← HCS.out] at hv
    obtain ⟨q, _, rfl⟩ := List.mem_map.1 hv
    rfl)
  go_wp2_with (refine wpList_copy_splice rfl (.tmp 7) (.tmp 8) 24 24 rfl 5 Try.underlying24 E1.out (some ⟨w.heap.size, 0, none⟩) A n n n c (by rfl) (by rfl) w.heap.size 0 cur.toList 5 E2.out cs E3.out ?_ E4.out E5.out w.heap.size w hb1 (Nat.le_refl _) ?_)
  · intro hp
    obtain ⟨ad, hA, _, hc⟩ := HI.out (by omega)
    refine ⟨ad, hA, fun j v hj => ?_⟩
    rw [← HCS.out] at hj
    simp only [List.getElem?_map, Option.map_eq_some_iff] at hj
    obtain ⟨q, hq, rfl⟩ := hj
    obtain ⟨hq1, hq2⟩ := List.getElem?_eq_some_iff.1 hq
    simp at hq1 hq2
    subst hq2
    exact hc j (by omega)
  · intro w2 hh2 hb2
    go_wp2_with fail
    go_ret
    refine ⟨w.heap.size, rfl, Nat.le_refl _, ⟨(splice cur.toList 0 cs).toArray, hh2.out, ?_, fun i hi => ?_⟩, hb2⟩
    · simp [splice]; omega
    · rw [← HCS.out]
      simp only [splice, List.getElem?_toArray, List.take_zero, List.nil_append]
      rw [List.getElem?_append_left (by rw [List.length_map, List.length_range]; exact hi)]
      simp [hi]

end Go.Proofs.Ytkejcdephnkkgaa.GmCopy

/- Memory in regions: Read, Write, Image. -/
namespace Go.Proofs.Ytkejcdephnkkgaa.GmRead
open Go.RowKit Rw GmFind GmWord GmLoad GmCopy
set_option linter.unusedVariables false
set_option linter.unusedSimpArgs false

set_option maxRecDepth 100000 in
set_option maxHeartbeats 2000000 in
theorem read_neg (m : Nat) (at_ n : Int) (w : World) (h : w.cell? ⟨m, 0, none⟩ = some (.pointer (some ⟨m, 0, none⟩))) (hn : n < 0) :
    Calls Try.prog 46 #[.pointer (some ⟨m, 0, none⟩), .int .u64 at_, .int .i64 n] w (Gives w.heap.size w (.tuple #[.slice none 0 0, .int .i64 2])) := by
  go_enter Try.func46, Try.ntmps46
  go_wp2_with fail
  refine (valid_any m _ h).mono ?_
  rintro e W ⟨rfl, rfl⟩
  go_wp2_with fail
  go_returns
  exact ⟨rfl, by go_grown⟩

set_option maxRecDepth 100000 in
set_option maxHeartbeats 2000000 in
theorem read_zero (m : Nat) (at_ : Int) (w : World) (h : w.cell? ⟨m, 0, none⟩ = some (.pointer (some ⟨m, 0, none⟩))) :
    Calls Try.prog 46 #[.pointer (some ⟨m, 0, none⟩), .int .u64 at_, .int .i64 0] w (Gives w.heap.size w (.tuple #[.slice none 0 0, .int .i64 0])) := by
  go_enter Try.func46, Try.ntmps46
  go_wp2_with fail
  refine (valid_any m _ h).mono ?_
  rintro e W ⟨rfl, rfl⟩
  go_wp2_with fail
  go_returns
  exact ⟨rfl, by go_grown⟩

set_option maxRecDepth 100000 in
set_option maxHeartbeats 4000000 in
theorem read_out (k m g1 b3 : Nat) (at_ n : Int) {A2 : Option Addr} {c1 c2 n3 c3 : Nat} (r : Rg) (w : World) (hk : k ≤ 1000000) (hr : r.In k) (hf : r.Fits k n3) (hn3 : n3 ≤ c3) (hn3' : n3 ≤ 1000000000) (h : MemAt w m k g1 A2 (some ⟨b3, 0, none⟩) c1 c2 n3 c3 r)
    (ha0 : 0 ≤ at_) (ha1 : at_ ≤ 18446744073709551615) (hn0 : 1 ≤ n) (hn1 : n ≤ 9223372036854775807) (ho : place r k at_ n = none) :
    Calls Try.prog 46 #[.pointer (some ⟨m, 0, none⟩), .int .u64 at_, .int .i64 n] w (Gives w.heap.size w (.tuple #[.slice none 0 0, .int .i64 5])) := by
  have hself := h.self
  have HF := Lib.hid (find_of k m g1 b3 at_ n r w hk hr hf hn3 hn3' h ha0 ha1 (by omega) (by omega))
  rw [ho] at HF
  clear hf h hr
  go_enter Try.func46, Try.ntmps46
  have hq1 := fun W a n c => Lib.run_eql_slice_nil (P := Try.prog) W 24 5 a n c 0 0 Try.underlying24
  go_wp2_with fail
  refine (valid_any m _ hself).mono ?_
  rintro e W ⟨rfl, rfl⟩
  go_wp2_with fail
  refine HF.out.mono ?_
  rintro e W1 ⟨he, hb1⟩
  obtain rfl : e = .returned (.slice none 0 0) := he
  go_wp2_with fail
  go_returns
  exact ⟨rfl, by go_grown⟩

set_option maxRecDepth 100000 in
set_option maxHeartbeats 4000000 in
theorem read_yes (k m g1 b3 : Nat) (at_ n : Int) {A2 : Option Addr} {c1 c2 n3 c3 o : Nat} (r : Rg) (g : Nat → Int) (w : World) (hk : k ≤ 1000000) (hr : r.In k) (hf : r.Fits k n3) (hn3 : n3 ≤ c3) (hn3' : n3 ≤ 1000000000) (h : MemAt w m k g1 A2 (some ⟨b3, 0, none⟩) c1 c2 n3 c3 r)
    (hby : By w b3 n3 g) (hb3 : b3 < w.heap.size)
    (ha0 : 0 ≤ at_) (ha1 : at_ ≤ 18446744073709551615) (hn0 : 1 ≤ n) (hn1 : n ≤ 9223372036854775807) (ho : place r k at_ n = some o) :
    Calls Try.prog 46 #[.pointer (some ⟨m, 0, none⟩), .int .u64 at_, .int .i64 n] w fun e w' => ∃ b, e = .returned (.tuple #[.slice (some ⟨b, 0, none⟩) n.toNat n.toNat, .int .i64 0]) ∧ w.heap.size ≤ b ∧ w'.rowIs b 5 n.toNat (fun j => .int .u8 (g (o + j))) ∧ Below w.heap.size w w' := by
  have hself := h.self
  have HF := Lib.hid (find_of k m g1 b3 at_ n r w hk hr hf hn3 hn3' h ha0 ha1 (by omega) (by omega))
  rw [ho] at HF
  obtain ⟨hfit, _⟩ := place_fits hf ho
  obtain ⟨N, rfl⟩ : ∃ N : Nat, n = (N : Int) := ⟨n.toNat, by omega⟩
  clear hf h hr ho
  go_enter Try.func46, Try.ntmps46
  have hq1 := fun W a n c => Lib.run_eql_slice_nil (P := Try.prog) W 24 5 a n c 0 0 Try.underlying24
  go_wp2_with fail
  refine (valid_any m _ hself).mono ?_
  rintro e W ⟨rfl, rfl⟩
  go_wp2_with fail
  refine HF.out.mono ?_
  rintro e W1 ⟨he, hb1⟩
  obtain rfl : e = .returned (.slice (some ⟨b3, o, none⟩) N (c3 - o)) := he
  clear HF
  have hs1 := hb1.size
  have HC := Lib.hid (show By W1 b3 n3 g from fun j hj => (hb1.cell (p := ⟨b3, j, none⟩) hb3).trans (hby j hj))
  clear hby
  go_wp2_with fail
  refine (copied_u8 _ N _ (fun j => g (o + j)) _ (by omega) (show IsRow W1 W1.heap.size 1 (some ⟨b3, o, none⟩) N _ from fun _ => ⟨⟨b3, o, none⟩, rfl, Nat.lt_of_lt_of_le hb3 hs1, fun j hj => ?_⟩)).mono ?_
  · have := HC.out (o + j) (by omega)
    show W1.cell? ((⟨b3, o, none⟩ : Addr).add j) = _
    rw [show (⟨b3, o, none⟩ : Addr).add j = ⟨b3, o + j, none⟩ from by unfold Addr.add; split <;> simp_all]
    exact this
  rintro e W2 ⟨b, rfl, hbb, hrow, hb2⟩
  go_wp2_with fail
  go_returns
  exact ⟨b, rfl, by omega, hrow, hb1.trans (hb2.mono hs1)⟩

set_option maxRecDepth 100000 in
set_option maxHeartbeats 2000000 in
theorem image_any (m n c : Nat) (A : Option Addr) (g : Nat → Int) (w : World) (hn : n ≤ 1000000000) (h : w.cell? ⟨m, 0, none⟩ = some (.pointer (some ⟨m, 0, none⟩))) (h3 : w.cell? ⟨m, 3, none⟩ = some (.slice A n c)) (hrow : IsRow w w.heap.size 1 A n (fun j => .int .u8 (g j))) :
    Calls Try.prog 30 #[.pointer (some ⟨m, 0, none⟩)] w fun e w' => ∃ b, e = .returned (.slice (some ⟨b, 0, none⟩) n n) ∧ w.heap.size ≤ b ∧ w'.rowIs b 5 n (fun j => .int .u8 (g j)) ∧ Below w.heap.size w w' := by
  have HR := Lib.hid hrow
  clear hrow
  go_enter Try.func30, Try.ntmps30
  go_wp2_with fail
  refine (valid_any m _ h).mono ?_
  rintro e W ⟨rfl, rfl⟩
  go_wp2_with fail
  refine (copied_u8 _ n _ g _ hn HR.out).mono ?_
  rintro e W2 ⟨b, rfl, hbb, hrow, hb2⟩
  go_wp2_with fail
  go_ret
  exact ⟨b, rfl, hbb, hrow, hb2⟩

end Go.Proofs.Ytkejcdephnkkgaa.GmRead

/- Memory in regions: Write. -/
namespace Go.Proofs.Ytkejcdephnkkgaa.GmWrite
open Go.RowKit Rw GmFind GmWord GmLoad GmCopy
set_option linter.unusedVariables false
set_option linter.unusedSimpArgs false

/-- The cells with bytes written. -/
def wrF (F : Nat → Value) (o n : Nat) (gb : Nat → Int) : Nat → Value := fun j => if o ≤ j ∧ j < o + n then .int .u8 (gb (j - o)) else F j

set_option maxRecDepth 100000 in
set_option maxHeartbeats 2000000 in
theorem write_zero (m c : Nat) (A : Option Addr) (at_ : Int) (w : World) (h : w.cell? ⟨m, 0, none⟩ = some (.pointer (some ⟨m, 0, none⟩))) :
    Calls Try.prog 52 #[.pointer (some ⟨m, 0, none⟩), .int .u64 at_, .slice A 0 c] w (Gives w.heap.size w (.int .i64 0)) := by
  go_enter Try.func52, Try.ntmps52
  go_wp2_with fail
  refine (valid_any m _ h).mono ?_
  rintro e W ⟨rfl, rfl⟩
  go_wp2_with fail
  go_ret
  exact ⟨rfl, by go_grown⟩

set_option maxRecDepth 100000 in
set_option maxHeartbeats 4000000 in
theorem write_out (k m g1 b3 N c : Nat) (A : Option Addr) (at_ : Int) {A2 : Option Addr} {c1 c2 n3 c3 : Nat} (r : Rg) (w : World) (hk : k ≤ 1000000) (hr : r.In k) (hf : r.Fits k n3) (hn3 : n3 ≤ c3) (hn3' : n3 ≤ 1000000000) (h : MemAt w m k g1 A2 (some ⟨b3, 0, none⟩) c1 c2 n3 c3 r)
    (ha0 : 0 ≤ at_) (ha1 : at_ ≤ 18446744073709551615) (hn0 : 1 ≤ N) (hn1 : N ≤ 9223372036854775807) (ho : place r k at_ N = none) :
    Calls Try.prog 52 #[.pointer (some ⟨m, 0, none⟩), .int .u64 at_, .slice A N c] w (Gives w.heap.size w (.int .i64 5)) := by
  have hself := h.self
  have HF := Lib.hid (find_of k m g1 b3 at_ N r w hk hr hf hn3 hn3' h ha0 ha1 (by omega) (by omega))
  rw [ho] at HF
  clear hf h hr
  go_enter Try.func52, Try.ntmps52
  have hq1 := fun W a n c => Lib.run_eql_slice_nil (P := Try.prog) W 24 5 a n c 0 0 Try.underlying24
  go_wp2_with fail
  refine (valid_any m _ hself).mono ?_
  rintro e W ⟨rfl, rfl⟩
  go_wp2_with fail
  refine HF.out.mono ?_
  rintro e W1 ⟨he, hb1⟩
  obtain rfl : e = .returned (.slice none 0 0) := he
  go_wp2_with fail
  go_ret
  exact ⟨rfl, by go_grown⟩

set_option maxRecDepth 100000 in
set_option maxHeartbeats 4000000 in
theorem write_yes (k m g1 b3 N c M o : Nat) (t : TypeId) (A : Option Addr) (at_ : Int) {A2 : Option Addr} {c1 c2 n3 c3 : Nat} (r : Rg) (F : Nat → Value) (gb : Nat → Int) (w : World) (hk : k ≤ 1000000) (hr : r.In k) (hf : r.Fits k n3) (hn3 : n3 ≤ c3) (hn3' : n3 ≤ 1000000000) (h : MemAt w m k g1 A2 (some ⟨b3, 0, none⟩) c1 c2 n3 c3 r)
    (hM : n3 ≤ M) (hrow : w.rowIs b3 t M F) (hsrc : IsRow w w.heap.size 1 A N (fun j => .int .u8 (gb j)))
    (ha0 : 0 ≤ at_) (ha1 : at_ ≤ 18446744073709551615) (hn0 : 1 ≤ N) (hn1 : N ≤ 9223372036854775807) (ho : place r k at_ N = some o) :
    Calls Try.prog 52 #[.pointer (some ⟨m, 0, none⟩), .int .u64 at_, .slice A N c] w fun e w' => e = .returned (.int .i64 0) ∧ w'.rowIs b3 t M (wrF F o N gb) ∧ w.grownBy w' (some b3) := by
  have hself := h.self
  have HF := Lib.hid (find_of k m g1 b3 at_ N r w hk hr hf hn3 hn3' h ha0 ha1 (by omega) (by omega))
  rw [ho] at HF
  obtain ⟨hfit, _⟩ := place_fits hf ho
  clear hf h hr
  go_enter Try.func52, Try.ntmps52
  have hq1 := fun W a n c => Lib.run_eql_slice_nil (P := Try.prog) W 24 5 a n c 0 0 Try.underlying24
  go_wp2_with fail
  refine (valid_any m _ hself).mono ?_
  rintro e W ⟨rfl, rfl⟩
  go_wp2_with fail
  refine HF.out.mono ?_
  rintro e W1 ⟨he, hb1⟩
  obtain rfl : e = .returned (.slice (some ⟨b3, o, none⟩) N (c3 - o)) := he
  clear HF
  have hrow1 := hrow.of_block (hb1.block b3 hrow.lt)
  have hg1 := only_of_below hb1 (some b3)
  obtain ⟨ad, rfl, had, hc⟩ := hsrc (by omega)
  obtain ⟨cur, hh, hsz, hcur⟩ := hrow1
  obtain ⟨cs, hcs⟩ : ∃ cs : List Value, (List.range N).map (fun j => Value.int .u8 (gb j)) = cs := ⟨_, rfl⟩
  have hlen : cs.length = N := by rw [← hcs]; simp
  have HCS := Lib.hid hcs
  have E1 := Lib.hid (show (Try.prog.info? 5).map (·.size) = some 1 from by kernel_rfl)
  have E2 := Lib.hid hh
  have E3 := Lib.hid (show cs.length = Nat.min N N from by rw [hlen]; exact (Nat.min_self N).symm)
  have E4 := Lib.hid (show o + cs.length ≤ cur.size from by rw [hlen, hsz]; omega)
  have E5 := Lib.hid (show ∀ v ∈ cs, v.oneCell' = true from by
    intro v hv
    rw [← HCS.out] at hv
    obtain ⟨q, _, rfl⟩ := List.mem_map.1 hv
    rfl)
  have E6 := Lib.hid (show ∀ j v, cs[j]? = some v → W1.cell? (ad.add j) = some v from by
    intro j v hj
    rw [← HCS.out] at hj
    simp only [List.getElem?_map, Option.map_eq_some_iff] at hj
    obtain ⟨q, hq, rfl⟩ := hj
    obtain ⟨hq1, hq2⟩ := List.getElem?_eq_some_iff.1 hq
    simp at hq1 hq2
    subst hq2
    exact (hb1.cell (p := ad.add j) (show (ad.add j).block < _ from by rw [block_of_add]; exact had)).trans (hc j (by omega)))
  have HCU := Lib.hid hcur
  clear hcs hc hb1 hh hcur hrow
  go_wp2_with (refine wpList_copy_own rfl _ _ 24 24 rfl 5 Try.underlying24 E1.out b3 o N (c3 - o) ad N c rfl rfl cur t E2.out cs E3.out E6.out E4.out E5.out ?_)
  go_ret
  refine ⟨rfl, ⟨_, setRow_heap _ _ _ _ _ _ E2.out, ?_, fun i hi => ?_⟩, ?_⟩
  · have := E4.out
    rw [List.size_toArray]
    simp only [List.length_append, List.length_take, List.length_drop, Array.length_toList]
    omega
  · have h4 := E4.out
    rw [List.getElem?_toArray]
    unfold wrF
    by_cases h1 : i < o
    · rw [List.getElem?_append_left (by rw [List.length_take, Array.length_toList]; omega), List.getElem?_take, if_pos h1, if_neg (by omega)]
      rw [Array.getElem?_toList]
      exact HCU.out i hi
    · rw [List.getElem?_append_right (by rw [List.length_take, Array.length_toList]; omega), List.length_take, Array.length_toList, Nat.min_eq_left (by omega)]
      by_cases h2 : i < o + N
      · rw [List.getElem?_append_left (by omega), if_pos (by omega), ← HCS.out]
        rw [List.getElem?_map, List.getElem?_range (by omega)]
        rfl
      · rw [List.getElem?_append_right (by omega), List.getElem?_drop, if_neg (by omega), Array.getElem?_toList, show o + N + (i - o - cs.length) = i from by omega]
        exact HCU.out i hi
  · exact ⟨hg1.os, hg1.tape, hg1.output, by simpa [World.setRow] using hg1.size, fun k hk hne => (setRow_other _ _ _ _ (by rintro rfl; exact hne rfl)).trans (hg1.block k hk hne)⟩

end Go.Proofs.Ytkejcdephnkkgaa.GmWrite

/- Memory in regions: Check. -/
namespace Go.Proofs.Ytkejcdephnkkgaa.GmCheck
open Go.RowKit Rw GmFind GmWord
set_option linter.unusedVariables false
set_option linter.unusedSimpArgs false

def sum (r : Rg) : Nat → Int
  | 0 => 0
  | i + 1 => sum r i + r.len i
/-- Region i is well behind those before it. -/
def Step (r : Rg) (i : Nat) : Prop := 1 ≤ r.len i ∧ sum r i + r.len i ≤ 1048576 ∧ r.at_ i + (r.len i - 1) ≤ 18446744073709551615 ∧ (0 < i → r.at_ (i - 1) + (r.len (i - 1) - 1) < r.at_ i)
/-- Numbers of 64 bits. -/
def Raw (r : Rg) (k : Nat) : Prop := ∀ i, i < k → 0 ≤ r.at_ i ∧ r.at_ i ≤ 18446744073709551615 ∧ 0 ≤ r.len i ∧ r.len i ≤ 18446744073709551615
/-- A list of regions. -/
def Lst (w : World) (B : Nat) (A : Option Addr) (k : Nat) (r : Rg) : Prop := IsRow w B 2 A k r.cell

theorem sum_lo {r : Rg} : ∀ {k : Nat}, Raw r k → ∀ i, i ≤ k → 0 ≤ sum r i
  | k, h, 0, _ => Int.le_refl _
  | k, h, i + 1, hi => by
    have h1 := sum_lo h i (by omega)
    have h2 := h i (by omega)
    show 0 ≤ sum r i + r.len i
    omega

set_option maxRecDepth 100000 in
set_option maxHeartbeats 4000000 in
theorem check_ok (A : Option Addr) (k c : Nat) (r : Rg) (w : World) (hk : k ≤ 16) (hr : Raw r k) (hs : ∀ i, i < k → Step r i) (h : Lst w w.heap.size A k r) :
    Calls Try.prog 42 #[.slice A k c] w (Gives w.heap.size w (.int .i64 0)) := by
  have HL := Lib.hid h
  have HR := Lib.hid hr
  have HS := Lib.hid hs
  clear h hr hs
  go_enter Try.func42, Try.ntmps42
  go_wp2_with fail
  go_loopw [3, 11] (fun x y wr => ∃ i : Nat, i ≤ k ∧ x = .int .u64 (sum r i) ∧ y = .int .i64 i ∧ Below w.heap.size w wr) (fun x y wr => k - (intOf y).toNat)
  case atStart => exact ⟨0, by omega, rfl, rfl, Below.refl _ _⟩
  case round =>
    obtain ⟨i, hi, rfl, rfl, hb⟩ := hrel
    by_cases hlt : i < k
    · obtain ⟨ad, hA, had, hc⟩ := (HL.out.below hb) (by omega)
      have c0 := el0 hc hlt (by decide)
      have c1 := elj hc hlt 1 (by decide) (by decide)
      rw [Rg.cell0] at c0
      rw [Rg.cell1] at c1
      obtain ⟨s1, s2, s3, s4⟩ := HS.out i hlt
      obtain ⟨r1, r2, r3, r4⟩ := HR.out i hlt
      have t1 := sum_lo HR.out i hi
      have HC := Lib.hid hc
      have HS4 := Lib.hid s4
      clear hc s4
      subst hA
      have hsw := hb.size
      have f1 : (r.len i == 0) = false := by simp; omega
      have f2 : decide (1048576 - sum r i < r.len i) = false := by simp; omega
      have f3 : decide (18446744073709551615 - r.at_ i < r.len i - 1) = false := by simp; omega
      have f4 : IntKind.u64.wrap (sum r i + r.len i) = sum r i + r.len i := by rw [IntKind.wrap_u64]; omega
      by_cases h0 : i = 0
      · have e0 : decide ((0 : Int) < (i : Int)) = false := by simp; omega
        have e0' : decide (0 < i) = false := by simp; omega
        have H0 := Lib.hid h0
        clear h0
        go_wp2_with fail
        refine Lib.wp_region_class (Lib.Held w _ [(wr.heap.size, 0, (.int .u64 (r.at_ i) : Value)), (wr.heap.size, 1, (.int .u64 (r.len i) : Value))]) (by kernel_rfl) (by kernel_rfl) ⟨by go_grown, Below.refl _ _, ⟨by go_size, by go_cell, by go_simp⟩, ⟨by go_size, by go_cell, by go_simp⟩, trivial⟩ ?_
        repeat (first | go_big_quiet_step ((intro hq; first | rfl | (go_simp; rfl))) | quiet_step ((intro hq; first | rfl | (go_simp; rfl))))
        refine wpQuiet_nil ?_
        intro W1 hq1
        obtain ⟨hb1, he1, ⟨hk1_0, hl1_0, hz1_0⟩, ⟨hk1_1, hl1_1, hz1_1⟩, _⟩ := hq1
        go_wp2_with fail
        go_roundw
        case rel => exact ⟨i + 1, by omega, rfl, by go_num, hb1⟩
        case measure => simp [intOf]; omega
      · obtain ⟨p, rfl⟩ : ∃ p, i = p + 1 := ⟨i - 1, by omega⟩
        have e0 : decide ((0 : Int) < ((p + 1 : Nat) : Int)) = true := decide_eq_true (by omega)
        have s4 := HS4.out (by omega)
        rw [Nat.add_sub_cancel] at s4
        have e4 : decide (r.at_ (p + 1) ≤ r.at_ p + (r.len p - 1)) = false := by simp; omega
        obtain ⟨p1, _, p3, _⟩ := HS.out p (by omega)
        obtain ⟨p0, _, _, _⟩ := HR.out p (by omega)
        obtain ⟨ad', hA', had', hc'⟩ := HL.out (by omega)
        cases hA'
        have d0 := el0 hc' (show p < k by omega) (by decide)
        have d1 := elj hc' (show p < k by omega) 1 (by decide) (by decide)
        rw [Rg.cell0] at d0
        rw [Rg.cell1] at d1
        have hap : (ad.add (p * 2)).block < w.heap.size := by rw [block_of_add]; exact had
        have hpp : ((p + 1 : Nat) : Int) - 1 = (p : Int) := by omega
        clear hc'
        go_wp2_with fail
        have hB0 : Below w.heap.size w (wr.alloc (.cells #[.int .u64 (r.at_ (p + 1)), .int .u64 (r.len (p + 1))] 75)).drew := by go_grown
        refine Lib.wp_region_class (Lib.Held w _ [(wr.heap.size, 0, (.int .u64 (r.at_ (p + 1)) : Value)), (wr.heap.size, 1, (.int .u64 (r.len (p + 1)) : Value))]) (by kernel_rfl) (by kernel_rfl) ⟨hB0, Below.refl _ _, ⟨by go_size, by go_cell, by go_simp⟩, ⟨by go_size, by go_cell, by go_simp⟩, trivial⟩ ?_
        repeat (first | go_big_quiet_step ((intro hq; first | rfl | (go_at_call 66; exact Lib.Held.call hq (end_any _ _ _ p0 p1 p3)) | (have hq' := hq; obtain ⟨hbq, heq, ⟨hkq_0, hlq_0, hzq_0⟩, ⟨hkq_1, hlq_1, hzq_1⟩, _⟩ := hq'; have zz0 := (hbq.cell (p := ad.add (p * 2)) hap).trans d0; have zz1 := (hbq.cell (p := ⟨(ad.add (p * 2)).block, (ad.add (p * 2)).off + 1, none⟩) hap).trans d1; go_simp; rfl))) | quiet_step ((intro hq; first | rfl | (go_at_call 66; exact Lib.Held.call hq (end_any _ _ _ p0 p1 p3)) | (have hq' := hq; obtain ⟨hbq, heq, ⟨hkq_0, hlq_0, hzq_0⟩, ⟨hkq_1, hlq_1, hzq_1⟩, _⟩ := hq'; have zz0 := (hbq.cell (p := ad.add (p * 2)) hap).trans d0; have zz1 := (hbq.cell (p := ⟨(ad.add (p * 2)).block, (ad.add (p * 2)).off + 1, none⟩) hap).trans d1; go_simp; rfl))))
        refine wpQuiet_nil ?_
        intro W1 hq1
        obtain ⟨hb1, he1, ⟨hk1_0, hl1_0, hz1_0⟩, ⟨hk1_1, hl1_1, hz1_1⟩, _⟩ := hq1
        go_wp2_with fail
        go_roundw
        case rel => exact ⟨p + 1 + 1, by omega, rfl, by go_num, hb1⟩
        case measure => simp [intOf]; omega
    · obtain rfl : i = k := by omega
      go_wp2
      go_ret
      exact ⟨rfl, hb⟩

end Go.Proofs.Ytkejcdephnkkgaa.GmCheck

/- The document's own answer on lists of regions: Check. -/
namespace Go.Proofs.Ytkejcdephnkkgaa.GmRef
open Go.RowKit Rw GmFind GmWord GmCheck
set_option linter.unusedVariables false
set_option linter.unusedSimpArgs false

/-- A region and the one before it are well, the sum apart. -/
def Own (r : Rg) (i : Nat) : Prop := 1 ≤ r.len i ∧ r.len i ≤ 1048576 ∧ r.at_ i + (r.len i - 1) ≤ 18446744073709551615 ∧ (0 < i → r.at_ (i - 1) + (r.len (i - 1) - 1) < r.at_ i)
theorem own_sum {r : Rg} : ∀ (k : Nat), (∀ i, i < k → Own r i) → 0 ≤ sum r k ∧ sum r k ≤ k * 1048576
  | 0, _ => ⟨Int.le_refl _, by show (0 : Int) ≤ _; omega⟩
  | k + 1, h => by
    have h1 := own_sum k (fun i hi => h i (by omega))
    obtain ⟨a, b, _, _⟩ := h k (by omega)
    have e : sum r (k + 1) = sum r k + r.len k := rfl
    rw [e]
    have : ((k + 1 : Nat) : Int) = (k : Int) + 1 := by omega
    rw [this]
    constructor <;> omega
theorem sum_mono {r : Rg} : ∀ (k : Nat), (∀ i, i < k → Own r i) → ∀ i, i ≤ k → sum r i ≤ sum r k
  | 0, _, i, hi => by obtain rfl : i = 0 := by omega
                      exact Int.le_refl _
  | k + 1, h, i, hi => by
    rcases Nat.lt_or_ge i (k + 1) with hlt | hge
    · have h1 := sum_mono k (fun i hi => h i (by omega)) i (by omega)
      obtain ⟨a, _, _, _⟩ := h k (by omega)
      have e : sum r (k + 1) = sum r k + r.len k := rfl
      rw [e]; omega
    · obtain rfl : i = k + 1 := by omega
      exact Int.le_refl _
/-- All is well, said in two ways. -/
theorem steps_iff {r : Rg} {k : Nat} (hr : Raw r k) : (∀ i, i < k → Step r i) ↔ ((∀ i, i < k → Own r i) ∧ sum r k ≤ 1048576) := by
  constructor
  · intro h
    refine ⟨fun i hi => ?_, ?_⟩
    · obtain ⟨a, b, c, d⟩ := h i hi
      have := sum_lo hr i (by omega)
      exact ⟨a, by omega, c, d⟩
    · cases k with
      | zero => show (0 : Int) ≤ 1048576; omega
      | succ p => exact (h p (by omega)).2.1
  · rintro ⟨h, hs⟩ i hi
    obtain ⟨a, b, c, d⟩ := h i hi
    refine ⟨a, ?_, c, d⟩
    have := sum_mono k h (i + 1) (by omega)
    have e : sum r (i + 1) = sum r i + r.len i := rfl
    rw [e] at this
    omega

set_option maxRecDepth 100000 in
theorem r_check_many (A : Option Addr) (k c : Nat) (w : World) (hk : 16 < k) : Calls Try.prog 45 #[.slice A k c] w (GmWord.Gives w.heap.size w (.int .i64 2)) := by
  unfold GmWord.Gives
  have h : decide ((16 : Int) < (k : Int)) = true := decide_eq_true (by omega)
  go_enter Try.func45, Try.ntmps45
  go_wp2
  go_ret
  exact ⟨rfl, by go_grown⟩

set_option maxRecDepth 100000 in
set_option maxHeartbeats 6000000 in
theorem r_check_any (A : Option Addr) (k c : Nat) (r : Rg) (q : Int) (w : World) (hk : k ≤ 16) (hr : Raw r k) (q0 : (∀ i, i < k → Step r i) → q = 0) (q2 : ¬ (∀ i, i < k → Step r i) → q = 2) (h : Lst w w.heap.size A k r) :
    Calls Try.prog 45 #[.slice A k c] w (GmWord.Gives w.heap.size w (.int .i64 q)) := by
  unfold GmWord.Gives
  have hb0 : Below w.heap.size w w := Below.refl _ _
  rw [steps_iff hr] at q0 q2
  have HL := Lib.hid h
  have HR := Lib.hid hr
  have HQ0 := Lib.hid q0
  have HQ2 := Lib.hid q2
  clear h hr q0 q2
  have h16 : decide ((16 : Int) < (k : Int)) = false := decide_eq_false (by omega)
  go_enter Try.func45, Try.ntmps45
  go_wp2_with fail
  go_loopw [3, 4] (fun x y wr => ∃ i : Nat, i ≤ k ∧ (∀ j, j < i → Own r j) ∧ x = .int .u64 (sum r i) ∧ y = .int .i64 i ∧ Below w.heap.size w wr) (fun x y wr => k - (intOf y).toNat)
  case atStart => exact ⟨0, by omega, fun j hj => by omega, rfl, rfl, Below.refl _ _⟩
  case round =>
    obtain ⟨i, hi, hown, rfl, rfl, hb⟩ := hrel
    have HOWN := Lib.hid hown
    have hsm := own_sum i hown
    have hwz := hb.size
    clear hown
    by_cases hlt : i < k
    · obtain ⟨ad, hA, had, hc⟩ := HL.out (by omega)
      have c0 := el0 hc hlt (by decide)
      have c1 := elj hc hlt 1 (by decide) (by decide)
      rw [Rg.cell0] at c0
      rw [Rg.cell1] at c1
      have hap : (ad.add (i * 2)).block < w.heap.size := by rw [block_of_add]; exact had
      obtain ⟨r1, r2, r3, r4⟩ := HR.out i hlt
      have HC := Lib.hid hc
      clear hc
      subst hA
      have hno : ¬ Own r i → q = 2 := fun hn => HQ2.out (fun hh => hn (hh.1 i hlt))
      by_cases b1 : r.len i = 0
      · obtain rfl : q = 2 := hno (fun hh => by have := hh.1; omega)
        have f1 : (r.len i == 0) = true := by simp [b1]
        clear b1 hno
        go_wp2_with fail
        refine Lib.wp_region_class (Lib.Held w _ []) (by kernel_rfl) (by kernel_rfl) ⟨by go_grown, Below.refl _ _, trivial⟩ ?_
        repeat (first | go_big_quiet_step ((intro hq; first | rfl | (have hbq := hq.1; have zz0 := (hbq.cell (p := ad.add (i * 2)) hap).trans c0; have zz1 := (hbq.cell (p := ⟨(ad.add (i * 2)).block, (ad.add (i * 2)).off + 1, none⟩) hap).trans c1; go_simp; rfl))) | quiet_step ((intro hq; first | rfl | (have hbq := hq.1; have zz0 := (hbq.cell (p := ad.add (i * 2)) hap).trans c0; have zz1 := (hbq.cell (p := ⟨(ad.add (i * 2)).block, (ad.add (i * 2)).off + 1, none⟩) hap).trans c1; go_simp; rfl))))
        refine wpQuiet_nil ?_
        intro W1 hq1
        have hb1 := hq1.1
        have hs1 := hb1.size
        go_wp2_with fail
        go_ret
        exact ⟨rfl, hb1⟩
      have f1 : (r.len i == 0) = false := by simp [b1]
      by_cases b2 : (1048576 : Int) < r.len i
      · obtain rfl : q = 2 := hno (fun hh => by have := hh.2.1; omega)
        have f2 : decide ((1048576 : Int) < r.len i) = true := decide_eq_true b2
        clear b1 b2 hno
        go_wp2_with fail
        refine Lib.wp_region_class (Lib.Held w _ []) (by kernel_rfl) (by kernel_rfl) ⟨by go_grown, Below.refl _ _, trivial⟩ ?_
        repeat (first | go_big_quiet_step ((intro hq; first | rfl | (have hbq := hq.1; have zz0 := (hbq.cell (p := ad.add (i * 2)) hap).trans c0; have zz1 := (hbq.cell (p := ⟨(ad.add (i * 2)).block, (ad.add (i * 2)).off + 1, none⟩) hap).trans c1; go_simp; rfl))) | quiet_step ((intro hq; first | rfl | (have hbq := hq.1; have zz0 := (hbq.cell (p := ad.add (i * 2)) hap).trans c0; have zz1 := (hbq.cell (p := ⟨(ad.add (i * 2)).block, (ad.add (i * 2)).off + 1, none⟩) hap).trans c1; go_simp; rfl))))
        refine wpQuiet_nil ?_
        intro W1 hq1
        have hb1 := hq1.1
        have hs1 := hb1.size
        go_wp2_with fail
        go_ret
        exact ⟨rfl, hb1⟩
      have f2 : decide ((1048576 : Int) < r.len i) = false := decide_eq_false b2
      have f3 : IntKind.u64.wrap (r.len i - 1) = r.len i - 1 := by rw [IntKind.wrap_u64]; omega
      by_cases b3 : 18446744073709551615 < r.at_ i + (r.len i - 1)
      · obtain rfl : q = 2 := hno (fun hh => by have := hh.2.2.1; omega)
        obtain ⟨s, hs, hsl⟩ : ∃ s, IntKind.u64.wrap (r.at_ i + (r.len i - 1)) = s ∧ s < r.at_ i := ⟨_, rfl, by rw [IntKind.wrap_u64]; omega⟩
        have f4 : decide (s < r.at_ i) = true := decide_eq_true hsl
        clear b1 b2 b3 hno
        go_wp2_with fail
        refine Lib.wp_region_class (Lib.Held w _ []) (by kernel_rfl) (by kernel_rfl) ⟨by go_grown, Below.refl _ _, trivial⟩ ?_
        repeat (first | go_big_quiet_step ((intro hq; first | rfl | (have hbq := hq.1; have zz0 := (hbq.cell (p := ad.add (i * 2)) hap).trans c0; have zz1 := (hbq.cell (p := ⟨(ad.add (i * 2)).block, (ad.add (i * 2)).off + 1, none⟩) hap).trans c1; go_simp; rfl))) | quiet_step ((intro hq; first | rfl | (have hbq := hq.1; have zz0 := (hbq.cell (p := ad.add (i * 2)) hap).trans c0; have zz1 := (hbq.cell (p := ⟨(ad.add (i * 2)).block, (ad.add (i * 2)).off + 1, none⟩) hap).trans c1; go_simp; rfl))))
        refine wpQuiet_nil ?_
        intro W1 hq1
        have hb1 := hq1.1
        have hs1 := hb1.size
        go_wp2_with fail
        go_ret
        exact ⟨rfl, hb1⟩
      have f4 : IntKind.u64.wrap (r.at_ i + (r.len i - 1)) = r.at_ i + (r.len i - 1) := by rw [IntKind.wrap_u64]; omega
      have f5 : decide (r.at_ i + (r.len i - 1) < r.at_ i) = false := decide_eq_false (by omega)
      have f6 : IntKind.u64.wrap (sum r i + r.len i) = sum r i + r.len i := by rw [IntKind.wrap_u64]; omega
      go_wp2_with fail
      refine Lib.wp_region_class (Lib.Held w _ []) (by kernel_rfl) (by kernel_rfl) ⟨by go_grown, Below.refl _ _, trivial⟩ ?_
      repeat (first | go_big_quiet_step ((intro hq; first | rfl | (have hbq := hq.1; have zz0 := (hbq.cell (p := ad.add (i * 2)) hap).trans c0; have zz1 := (hbq.cell (p := ⟨(ad.add (i * 2)).block, (ad.add (i * 2)).off + 1, none⟩) hap).trans c1; go_simp; rfl))) | quiet_step ((intro hq; first | rfl | (have hbq := hq.1; have zz0 := (hbq.cell (p := ad.add (i * 2)) hap).trans c0; have zz1 := (hbq.cell (p := ⟨(ad.add (i * 2)).block, (ad.add (i * 2)).off + 1, none⟩) hap).trans c1; go_simp; rfl))))
      refine wpQuiet_nil ?_
      intro W1 hq1
      have hb1 := hq1.1
      have hs1 := hb1.size
      have e1 : W1.cell? ⟨(ad.add (i * 2)).block, (ad.add (i * 2)).off + 1, none⟩ = .some (.int .u64 (r.len i)) := (hb1.cell (p := ⟨(ad.add (i * 2)).block, (ad.add (i * 2)).off + 1, none⟩) hap).trans c1
      by_cases h0 : i = 0
      · have e0 : decide ((0 : Int) < (i : Int)) = false := decide_eq_false (by omega)
        have e0' : decide (0 < i) = false := decide_eq_false (by omega)
        have HOI : Hid (Own r i) := Lib.hid ⟨by omega, by omega, by omega, fun h => by omega⟩
        have H0 := Lib.hid h0
        clear h0 b1 b2 b3 hno
        go_wp2_with fail
        refine Lib.wp_region_class (Lib.Held w _ []) (by kernel_rfl) (by kernel_rfl) ⟨by go_grown, Below.refl _ _, trivial⟩ ?_
        repeat (first | go_big_quiet_step ((intro hq; first | rfl | (have hbq := hq.1; have zz0 := (hbq.cell (p := ad.add (i * 2)) hap).trans c0; have zz1 := (hbq.cell (p := ⟨(ad.add (i * 2)).block, (ad.add (i * 2)).off + 1, none⟩) hap).trans c1; go_simp; rfl))) | quiet_step ((intro hq; first | rfl | (have hbq := hq.1; have zz0 := (hbq.cell (p := ad.add (i * 2)) hap).trans c0; have zz1 := (hbq.cell (p := ⟨(ad.add (i * 2)).block, (ad.add (i * 2)).off + 1, none⟩) hap).trans c1; go_simp; rfl))))
        refine wpQuiet_nil ?_
        intro W2 hq2
        have hb2 := hq2.1
        have hs2 := hb2.size
        go_wp2_with fail
        go_roundw
        case rel => exact ⟨i + 1, by omega, fun j hj => by
          rcases Nat.lt_or_ge j i with hl | hg
          · exact HOWN.out j hl
          · obtain rfl : j = i := by omega
            exact HOI.out, rfl, by go_num, hb2⟩
        case measure => simp [intOf]; omega
      · obtain ⟨p, rfl⟩ : ∃ p, i = p + 1 := ⟨i - 1, by omega⟩
        have e0 : decide ((0 : Int) < ((p + 1 : Nat) : Int)) = true := decide_eq_true (by omega)
        obtain ⟨p1, p2, p3, _⟩ := HOWN.out p (by omega)
        obtain ⟨s1, s2, s3, s4⟩ := HR.out p (by omega)
        have d0 := el0 HC.out (show p < k by omega) (by decide)
        have d1 := elj HC.out (show p < k by omega) 1 (by decide) (by decide)
        rw [Rg.cell0] at d0
        rw [Rg.cell1] at d1
        have hap2 : (ad.add (p * 2)).block < w.heap.size := by rw [block_of_add]; exact had
        have hpp : ((p + 1 : Nat) : Int) - 1 = (p : Int) := by omega
        have g2 : IntKind.u64.wrap (r.len p - 1) = r.len p - 1 := by rw [IntKind.wrap_u64]; omega
        have g3 : IntKind.u64.wrap (r.at_ p + (r.len p - 1)) = r.at_ p + (r.len p - 1) := by rw [IntKind.wrap_u64]; omega
        by_cases b4 : r.at_ (p + 1) ≤ r.at_ p + (r.len p - 1)
        · obtain rfl : q = 2 := hno (fun hh => by have h4 := hh.2.2.2 (by omega); rw [Nat.add_sub_cancel] at h4; omega)
          have e4 : decide (r.at_ (p + 1) ≤ r.at_ p + (r.len p - 1)) = true := decide_eq_true b4
          clear b1 b2 b3 b4 hno h0
          go_wp2_with fail
          refine Lib.wp_region_class (Lib.Held w _ []) (by kernel_rfl) (by kernel_rfl) ⟨by go_grown, Below.refl _ _, trivial⟩ ?_
          repeat (first | go_big_quiet_step ((intro hq; first | rfl | (have hbq := hq.1; have zz0 := (hbq.cell (p := ad.add ((p + 1) * 2)) hap).trans c0; have zz2 := (hbq.cell (p := ad.add (p * 2)) hap2).trans d0; have zz3 := (hbq.cell (p := ⟨(ad.add (p * 2)).block, (ad.add (p * 2)).off + 1, none⟩) hap2).trans d1; go_simp; rfl))) | quiet_step ((intro hq; first | rfl | (have hbq := hq.1; have zz0 := (hbq.cell (p := ad.add ((p + 1) * 2)) hap).trans c0; have zz2 := (hbq.cell (p := ad.add (p * 2)) hap2).trans d0; have zz3 := (hbq.cell (p := ⟨(ad.add (p * 2)).block, (ad.add (p * 2)).off + 1, none⟩) hap2).trans d1; go_simp; rfl))))
          refine wpQuiet_nil ?_
          intro W2 hq2
          have hb2 := hq2.1
          have hs2 := hb2.size
          go_wp2_with fail
          go_ret
          exact ⟨rfl, hb2⟩
        · have e4 : decide (r.at_ (p + 1) ≤ r.at_ p + (r.len p - 1)) = false := decide_eq_false b4
          have HOI : Hid (Own r (p + 1)) := Lib.hid ⟨by omega, by omega, by omega, fun h => by rw [Nat.add_sub_cancel]; omega⟩
          clear b1 b2 b3 b4 hno h0
          go_wp2_with fail
          refine Lib.wp_region_class (Lib.Held w _ []) (by kernel_rfl) (by kernel_rfl) ⟨by go_grown, Below.refl _ _, trivial⟩ ?_
          repeat (first | go_big_quiet_step ((intro hq; first | rfl | (have hbq := hq.1; have zz0 := (hbq.cell (p := ad.add ((p + 1) * 2)) hap).trans c0; have zz2 := (hbq.cell (p := ad.add (p * 2)) hap2).trans d0; have zz3 := (hbq.cell (p := ⟨(ad.add (p * 2)).block, (ad.add (p * 2)).off + 1, none⟩) hap2).trans d1; go_simp; rfl))) | quiet_step ((intro hq; first | rfl | (have hbq := hq.1; have zz0 := (hbq.cell (p := ad.add ((p + 1) * 2)) hap).trans c0; have zz2 := (hbq.cell (p := ad.add (p * 2)) hap2).trans d0; have zz3 := (hbq.cell (p := ⟨(ad.add (p * 2)).block, (ad.add (p * 2)).off + 1, none⟩) hap2).trans d1; go_simp; rfl))))
          refine wpQuiet_nil ?_
          intro W2 hq2
          have hb2 := hq2.1
          have hs2 := hb2.size
          go_wp2_with fail
          go_roundw
          case rel => exact ⟨p + 1 + 1, by omega, fun j hj => by
            rcases Nat.lt_or_ge j (p + 1) with hl | hg
            · exact HOWN.out j hl
            · obtain rfl : j = p + 1 := by omega
              exact HOI.out, rfl, by go_num, hb2⟩
          case measure => simp [intOf]; omega
    · obtain rfl : i = k := by omega
      by_cases hs : (1048576 : Int) < sum r i
      · obtain rfl : q = 2 := HQ2.out (fun hh => by have := hh.2; omega)
        have g1 : decide ((1048576 : Int) < sum r i) = true := decide_eq_true hs
        go_wp2
        go_ret
        exact ⟨rfl, hb⟩
      · obtain rfl : q = 0 := HQ0.out ⟨HOWN.out, by omega⟩
        have g1 : decide ((1048576 : Int) < sum r i) = false := decide_eq_false hs
        go_wp2
        go_ret
        exact ⟨rfl, hb⟩

end Go.Proofs.Ytkejcdephnkkgaa.GmRef

/- The document's own memory: find, Has. -/
namespace Go.Proofs.Ytkejcdephnkkgaa.GmRef
open Go.RowKit Rw GmFind GmWord GmCheck
set_option linter.unusedVariables false
set_option linter.unusedSimpArgs false

/-- Does a region hold the range? -/
def inR (r : Rg) (a n : Int) (i : Nat) : Prop := 1 ≤ n ∧ r.at_ i ≤ a ∧ n ≤ r.len i ∧ a - r.at_ i ≤ r.len i - n
/-- What find answers. -/
def FindP (r : Rg) (k : Nat) (a n : Int) (B : Nat) (w : World) (e : Ending) (w' : World) : Prop := Below B w w' ∧
  ((∃ i : Nat, i < k ∧ inR r a n i ∧ (∀ j, j < i → ¬ inR r a n j) ∧ e = .returned (.tuple #[.int .i64 i, .int .i64 (a - r.at_ i)])) ∨ ((∀ j, j < k → ¬ inR r a n j) ∧ e = .returned (.tuple #[.int .i64 (-1), .int .i64 0])))

set_option maxRecDepth 100000 in
set_option maxHeartbeats 4000000 in
theorem r_find_any (mm k c : Nat) (A : Option Addr) (r : Rg) (a n : Int) (w : World) (hk : k ≤ 1000000) (hr : Raw r k) (hl : ∀ i, i < k → r.len i ≤ 1048576) (ha : 0 ≤ a ∧ a ≤ 18446744073709551615) (hn : 0 ≤ n ∧ n ≤ 18446744073709551615)
    (h0 : w.cell? ⟨mm, 0, none⟩ = some (.slice A k c)) (hm : mm < w.heap.size) (h : Lst w w.heap.size A k r) :
    Calls Try.prog 68 #[.pointer (some ⟨mm, 0, none⟩), .int .u64 a, .int .u64 n] w (FindP r k a n w.heap.size w) := by
  have HL := Lib.hid h
  have HR := Lib.hid hr
  have HLE := Lib.hid hl
  clear h hr hl
  go_enter Try.func68, Try.ntmps68
  go_wp2_with fail
  go_loopw [8] (fun y wr => ∃ i : Nat, i ≤ k ∧ (∀ j, j < i → ¬ inR r a n j) ∧ y = .int .i64 i ∧ Below w.heap.size w wr) (fun y wr => k - (intOf y).toNat)
  case atStart => exact ⟨0, by omega, fun j hj => by omega, rfl, Below.refl _ _⟩
  case round =>
    obtain ⟨i, hi, hno, rfl, hb⟩ := hrel
    have HNO := Lib.hid hno
    clear hno
    have hwz := hb.size
    have m0 := (hb.cell (p := ⟨mm, 0, none⟩) hm).trans h0
    by_cases hlt : i < k
    · obtain ⟨ad, hA, had, hc⟩ := (HL.out.below hb) (by omega)
      have c0 := el0 hc hlt (by decide)
      have c1 := elj hc hlt 1 (by decide) (by decide)
      rw [Rg.cell0] at c0
      rw [Rg.cell1] at c1
      obtain ⟨r1, r2, r3, r4⟩ := HR.out i hlt
      have r5 := HLE.out i hlt
      clear hc
      subst hA
      by_cases hin : inR r a n i
      · obtain ⟨a1, a2, a3, a4⟩ := hin
        have HI : Hid (inR r a n i) := Lib.hid ⟨a1, a2, a3, a4⟩
        have f1 : IntKind.u64.wrap (a - r.at_ i) = a - r.at_ i := by rw [IntKind.wrap_u64]; omega
        have f2 : IntKind.u64.wrap (r.len i - n) = r.len i - n := by rw [IntKind.wrap_u64]; omega
        go_wp2_with fail
        go_region
        go_wp2_with fail
        go_returns
        exact ⟨by go_grown, .inl ⟨i, hlt, HI.out, HNO.out, rfl⟩⟩
      · have HI : Hid (¬ inR r a n i) := Lib.hid hin
        have hstep : ∀ W : World, Below w.heap.size w W → ∃ i' : Nat, i' ≤ k ∧ (∀ j, j < i' → ¬ inR r a n j) ∧ Value.int .i64 ((i : Int) + 1) = .int .i64 i' ∧ Below w.heap.size w W := fun W hW => ⟨i + 1, by omega, fun j hj => by
          rcases Nat.lt_or_ge j i with h | h
          · exact HNO.out j h
          · obtain rfl : j = i := by omega
            exact HI.out, by go_num, hW⟩
        have HST := Lib.hid hstep
        clear hin hstep
        by_cases b1 : 1 ≤ n
        case neg =>
          go_wp2_with fail
          go_roundw
          case rel => exact HST.out _ (by go_grown)
          case measure => simp [intOf]; omega
        by_cases b2 : r.at_ i ≤ a
        case neg =>
          go_wp2_with fail
          go_roundw
          case rel => exact HST.out _ (by go_grown)
          case measure => simp [intOf]; omega
        by_cases b3 : n ≤ r.len i
        case neg =>
          go_wp2_with fail
          go_roundw
          case rel => exact HST.out _ (by go_grown)
          case measure => simp [intOf]; omega
        have b4 : ¬ a - r.at_ i ≤ r.len i - n := fun hh => HI.out ⟨b1, b2, b3, hh⟩
        have f1 : IntKind.u64.wrap (a - r.at_ i) = a - r.at_ i := by rw [IntKind.wrap_u64]; omega
        have f2 : IntKind.u64.wrap (r.len i - n) = r.len i - n := by rw [IntKind.wrap_u64]; omega
        go_wp2_with fail
        go_roundw
        case rel => exact HST.out _ (by go_grown)
        case measure => simp [intOf]; omega
    · obtain rfl : i = k := by omega
      go_wp2_with fail
      go_returns
      exact ⟨hb, .inr ⟨HNO.out, rfl⟩⟩

/-- A range is in a region exactly if find has a place for it. -/
theorem place_inR {r : Rg} {k : Nat} {a n : Int} (hr : r.In k) : (place r k a n).isSome = true ↔ ∃ i, i < k ∧ inR r a n i := by
  unfold place
  constructor
  · intro h
    by_cases ho : okB r k (idx r a k) a n = true
    · have ho' := ho
      unfold okB at ho'
      simp only [Bool.and_eq_true, decide_eq_true_eq] at ho'
      obtain ⟨⟨⟨h1, h2⟩, h3⟩, h4⟩ := ho'
      have e : r.end_ (idx r a k) = r.at_ (idx r a k) + (r.len (idx r a k) - 1) := rfl
      rw [e] at h4
      exact ⟨idx r a k, h1, h3, h2, by omega, by omega⟩
    · rw [if_neg ho] at h; cases h
  · rintro ⟨i, hi, h1, h2, h3, h4⟩
    have e : r.end_ i = r.at_ i + (r.len i - 1) := rfl
    have hid : idx r a k = i := by
      refine idx_eq r a k i (by omega) (fun j hj => ?_) (fun _ => by rw [e]; omega)
      obtain ⟨p, rfl⟩ : ∃ p, i = p + 1 := ⟨i - 1, by omega⟩
      have g1 := hr.mono' (i := j) (j := p) (by omega) (by omega)
      have g2 := hr.up p (by omega)
      omega
    have ho : okB r k (idx r a k) a n = true := by
      rw [hid]
      unfold okB
      rw [e, decide_eq_true hi, decide_eq_true h2, decide_eq_true h1, decide_eq_true (by omega)]
      rfl
    rw [if_pos ho]
    rfl

set_option maxRecDepth 100000 in
set_option maxHeartbeats 4000000 in
theorem r_has_any (mm k c : Nat) (A : Option Addr) (r : Rg) (a n : Int) (w : World) (hk : k ≤ 1000000) (hr : Raw r k) (hI : r.In k) (hl : ∀ i, i < k → r.len i ≤ 1048576) (ha : 0 ≤ a ∧ a ≤ 18446744073709551615) (hn : 0 ≤ n ∧ n ≤ 18446744073709551615)
    (h0 : w.cell? ⟨mm, 0, none⟩ = some (.slice A k c)) (hm : mm < w.heap.size) (h : Lst w w.heap.size A k r) :
    Calls Try.prog 48 #[.pointer (some ⟨mm, 0, none⟩), .int .u64 a, .int .u64 n] w (GmWord.Gives w.heap.size w (.bool (place r k a n).isSome)) := by
  unfold GmWord.Gives
  have HF := Lib.hid (r_find_any mm k c A r a n w hk hr hl ha hn h0 hm h)
  have HP := Lib.hid (place_inR (a := a) (n := n) hI)
  clear hr hI hl h h0
  generalize (place r k a n).isSome = s at HP ⊢
  go_enter Try.func48, Try.ntmps48
  go_wp2_with fail
  refine HF.out.mono ?_
  rintro e W ⟨hb, ⟨i, hi, hin, _, rfl⟩ | ⟨hno, rfl⟩⟩
  · obtain rfl : s = true := HP.out.2 ⟨i, hi, hin⟩
    have f : decide ((0 : Int) ≤ (i : Int)) = true := decide_eq_true (by omega)
    go_wp2_with fail
    go_ret
    exact ⟨rfl, by go_grown⟩
  · obtain rfl : s = false := by
      cases s with
      | false => rfl
      | true =>
        obtain ⟨i, hi, hin⟩ := HP.out.1 rfl
        exact absurd hin (hno i hi)
    go_wp2_with fail
    go_ret
    exact ⟨rfl, by go_grown⟩

set_option maxRecDepth 100000 in
theorem r_new_no (A : Option Addr) (k c : Nat) (w : World) (h : ∀ W, w = W → Calls Try.prog 45 #[.slice A k c] W (GmWord.Gives W.heap.size W (.int .i64 2))) : Calls Try.prog 11 #[.slice A k c] w (GmWord.Gives w.heap.size w (.tuple #[.pointer none, .int .i64 2])) := by
  unfold GmWord.Gives
  have H := Lib.hid h
  clear h
  go_enter Try.func11, Try.ntmps11
  go_wp2_with fail
  refine (H.out _ rfl).mono ?_
  rintro e W1 ⟨rfl, hg1⟩
  go_wp2_with fail
  go_returns
  exact ⟨rfl, by go_grown⟩

end Go.Proofs.Ytkejcdephnkkgaa.GmRef

/- copy of elements of several cells, into a row that is known whole. -/
namespace Go.Proofs.Ytkejcdephnkkgaa.Rw
open Go.RowKit
set_option linter.unusedVariables false
set_option linter.unusedSimpArgs false

theorem run_copy_rowN {P : Program} (w : World) (dT sT ty elem : TypeId) (z : Nat) (g o dLen dCap : Nat) (a : Addr) (sLen sCap : Nat) (cur : Array Value) (t : TypeId) (cs : List Value)
    (hu : P.underlying dT = some (.slice elem)) (hs : (P.info? elem).map (·.size) = some z)
    (hg : w.heap[g]? = some (.cells cur t (0, 0))) (hn : cs.length = Nat.min sLen dLen * z)
    (hsrc : ∀ j v, cs[j]? = some v → w.cell? (a.add j) = some v) (hfit : o + cs.length ≤ cur.size) (h1 : ∀ v ∈ cs, v.oneCell' = true) :
    (Builtin.copy_ #[dT, sT] ty #[.slice (some ⟨g, o, none⟩) dLen dCap, .slice (some a) sLen sCap]).run P w =
      .ok (goInt (Nat.min sLen dLen)) (w.setRow g (cur.toList.take o ++ cs ++ cur.toList.drop (o + cs.length)).toArray) := by
  have hl := run_loadCells_list (P := P) w a cs hsrc
  have hst := run_storeCells_at P g o t cs 0 cur w hg (by simpa using hfit) h1
  cases hq : P.info? elem with
  | none => simp [hq] at hs
  | some i =>
    have hi : i.size = z := by simpa [hq] using hs
    simp [Builtin.copy_, run_underlying hu, Builtin.lenOf, Builtin.firstCells, sizeOf, typeInfo, hq, hi, ← hn, hl, hst]

theorem wpList_copy_ownN {P : Program} {w : World} {ops : Array Oper} {rest : List Oper} {o : Oper} {a : Act} {Q : Exit → Act → World → Prop} (hgd : o.guard = none) (d s : Operand) (dT sT : TypeId)
    (ho : o.op = .call { callee := .builtin .copy, args := #[d, s], argTypes := #[dT, sT] }) (elem : TypeId) (z : Nat) (hu : P.underlying dT = some (.slice elem)) (hsz : (P.info? elem).map (·.size) = some z)
    (g off dLen dCap : Nat) (ad : Addr) (sLen sCap : Nat) (hd : a.eval d = .slice (some ⟨g, off, none⟩) dLen dCap) (hs : a.eval s = .slice (some ad) sLen sCap)
    (cur : Array Value) (t : TypeId) (hg : w.heap[g]? = some (.cells cur t (0, 0))) (cs : List Value) (hn : cs.length = Nat.min sLen dLen * z)
    (hsrc : ∀ j v, cs[j]? = some v → w.cell? (ad.add j) = some v) (hfit : off + cs.length ≤ cur.size) (h1 : ∀ v ∈ cs, v.oneCell' = true)
    (h : wpList P ops Q rest (a.put o.dst (goInt (Nat.min sLen dLen))) (w.setRow g (cur.toList.take off ++ cs ++ cur.toList.drop (off + cs.length)).toArray)) : wpList P ops Q (o :: rest) a w := by
  refine wpList_plain hgd fun K hK => ?_
  have hrun := run_copy_rowN (P := P) w dT sT o.type elem z g off dLen dCap ad sLen sCap cur t cs hu hsz hg hn hsrc hfit h1
  unfold Oper.wp
  simp only [execOp, ho, resolve, invoke, builtin, Sem.run_bind, Sem.run_pure, Result.andThen_ok, List.map_toArray, List.map_cons, List.map_nil, hd, hs, hrun]
  exact hK _ _ h

end Go.Proofs.Ytkejcdephnkkgaa.Rw

/- Memory in regions: copied (regions). -/
namespace Go.Proofs.Ytkejcdephnkkgaa.GmCopyR
open Go.RowKit Rw GmFind GmWord GmLoad GmCopy GmCheck
set_option linter.unusedVariables false
set_option linter.unusedSimpArgs false

theorem rginfo : ∃ i, Try.prog.info? 75 = some i ∧ i.zero = some (.agg #[.int .u64 0, .int .u64 0]) ∧ i.size = 2 ∧ i.bytes = 16 := by
  have h : (Try.prog.info? 75).map (fun i => (i.size, i.bytes)) = some (2, 16) := by kernel_rfl
  have h2 : (Try.prog.info? 75).bind (fun i => i.zero) = some (.agg #[.int .u64 0, .int .u64 0]) := by kernel_rfl
  obtain ⟨i, hi, hs⟩ := Option.map_eq_some_iff.1 h
  rw [hi] at h2
  exact ⟨i, hi, h2, (Prod.mk.inj hs).1, (Prod.mk.inj hs).2⟩

set_option maxRecDepth 100000 in
set_option maxHeartbeats 4000000 in
theorem copied_rg (A : Option Addr) (k c : Nat) (r : Rg) (w : World) (hk0 : 0 < k) (hk : k ≤ 1000000) (h : Lst w w.heap.size A k r) :
    Calls Try.prog 43 #[.slice A k c] w fun e w' => ∃ b, e = .returned (.slice (some ⟨b, 0, none⟩) k k) ∧ w.heap.size ≤ b ∧ w'.rowIs b 75 (k * 2) r.cell ∧ Below w.heap.size w w' := by
  obtain ⟨i0, hi, hz0, hz1, hz2⟩ := rginfo
  have H0 := Lib.hid hi
  have H1 := Lib.hid hz0
  have H2 := Lib.hid hz1
  have H3 := Lib.hid hz2
  clear hi hz0 hz1 hz2
  go_enter Try.func43, Try.ntmps43
  go_wp2_with (at_make; refine wpList_make_full _ rfl _ _ 22 rfl w.heap.size 75 i0 (.agg #[.int .u64 0, .int .u64 0]) 2 Try.underlying22 H0.out H1.out H2.out _ _ _ _ k rfl rfl rfl rfl (by rw [H3.out]; omega) (by unfold maxLen; omega) (Nat.le_refl _) ?_)
  intro w1 ho1 hg1
  obtain ⟨cur, hh, hsz⟩ : ∃ cur : Array Value, w1.heap[w.heap.size]? = some (.cells cur 75 (0, 0)) ∧ cur.size = k * 2 := by
    rcases ho1.2 with ⟨hx, _⟩ | ⟨g', cap, cur, he, _, hh, _, _, hsz, _⟩
    · cases hx
    · cases he
      exact ⟨cur, hh, by omega⟩
  have HH := Lib.hid hh
  have hb1 : Below w.heap.size w w1 := (Below.refl _ w).grown hg1 (Nat.le_refl _) (fun k e => by cases e)
  clear ho1 hg1 hh
  obtain ⟨ad, rfl, had, hc⟩ := (h.below hb1) hk0
  clear h
  obtain ⟨cs, hcs⟩ : ∃ cs : List Value, (List.range (k * 2)).map r.cell = cs := ⟨_, rfl⟩
  have hlen : cs.length = k * 2 := by rw [← hcs]; simp
  have HCS := Lib.hid hcs
  have E1 := Lib.hid (show (Try.prog.info? 75).map (·.size) = some 2 from by kernel_rfl)
  have E2 := Lib.hid (show w1.heap[w.heap.size]? = some (.cells cur 75 (0, 0)) from HH.out)
  have E3 := Lib.hid (show cs.length = Nat.min k k * 2 from by rw [hlen, show Nat.min k k = k from Nat.min_self k])
  have E4 := Lib.hid (show 0 + cs.length ≤ cur.size from by rw [hlen, hsz]; omega)
  have E5 := Lib.hid (show ∀ v ∈ cs, v.oneCell' = true from by
    intro v hv
    rw [← HCS.out] at hv
    obtain ⟨q, _, rfl⟩ := List.mem_map.1 hv
    unfold Rg.cell
    split <;> rfl)
  have E6 := Lib.hid (show ∀ j v, cs[j]? = some v → w1.cell? (ad.add j) = some v from by
    intro j v hj
    rw [← HCS.out] at hj
    simp only [List.getElem?_map, Option.map_eq_some_iff] at hj
    obtain ⟨q, hq, rfl⟩ := hj
    obtain ⟨hq1, hq2⟩ := List.getElem?_eq_some_iff.1 hq
    simp at hq1 hq2
    subst hq2
    exact hc j (by omega))
  clear hcs hc
  go_wp2_with (refine wpList_copy_ownN rfl _ _ 22 22 rfl 75 2 Try.underlying22 E1.out w.heap.size 0 k k ad k c rfl rfl cur 75 E2.out cs E3.out E6.out E4.out E5.out ?_)
  go_ret
  refine ⟨w.heap.size, rfl, Nat.le_refl _, ⟨_, setRow_heap _ _ _ _ _ _ E2.out, ?_, fun i hi => ?_⟩, below_setRow hb1 (Nat.le_refl _) _⟩
  · have := E4.out
    rw [List.size_toArray]
    simp only [List.length_append, List.length_take, List.length_drop, Array.length_toList]
    omega
  · rw [List.getElem?_toArray]
    rw [List.getElem?_append_left (by omega), ← HCS.out, List.getElem?_map, List.getElem?_range hi]
    rfl

end Go.Proofs.Ytkejcdephnkkgaa.GmCopyR

/- Memory in regions: New of valid regions, at least one. -/
namespace Go.Proofs.Ytkejcdephnkkgaa.GmNew
open Go.RowKit Rw GmFind GmWord GmLoad GmCopy GmCheck GmCopyR
set_option linter.unusedVariables false
set_option linter.unusedSimpArgs false

theorem u8info : ∃ i, Try.prog.info? 5 = some i ∧ i.zero = some (.int .u8 0) ∧ i.size = 1 ∧ i.bytes = 1 := by
  have h : (Try.prog.info? 5).map (fun i => (i.size, i.bytes)) = some (1, 1) := by kernel_rfl
  have h2 : (Try.prog.info? 5).bind (fun i => i.zero) = some (.int .u8 0) := by kernel_rfl
  obtain ⟨i, hi, hs⟩ := Option.map_eq_some_iff.1 h
  rw [hi] at h2
  exact ⟨i, hi, h2, (Prod.mk.inj hs).1, (Prod.mk.inj hs).2⟩
theorem intinfo : ∃ i, Try.prog.info? 3 = some i ∧ i.zero = some (.int .i64 0) ∧ i.size = 1 ∧ i.bytes = 8 := by
  have h : (Try.prog.info? 3).map (fun i => (i.size, i.bytes)) = some (1, 8) := by kernel_rfl
  have h2 : (Try.prog.info? 3).bind (fun i => i.zero) = some (.int .i64 0) := by kernel_rfl
  obtain ⟨i, hi, hs⟩ := Option.map_eq_some_iff.1 h
  rw [hi] at h2
  exact ⟨i, hi, h2, (Prod.mk.inj hs).1, (Prod.mk.inj hs).2⟩
theorem u8zero (w : World) : (zeroValue 5).run Try.prog w = .ok (.int .u8 0) w := by kernel_rfl

theorem zeros_get (n j : Nat) (h : j < n) : (Builtin.zeroCells (Value.int .u8 0).cells n)[j]? = some (.int .u8 0) := by
  have e : (Value.int .u8 0).cells = #[.int .u8 0] := rfl
  rw [e]
  simp [Builtin.zeroCells, h, Nat.mod_one]
theorem zeros_size (n : Nat) : (Builtin.zeroCells (Value.int .u8 0).cells n).size = n := by
  have e : (Value.int .u8 0).cells = #[.int .u8 0] := rfl
  rw [e]
  simp [Builtin.zeroCells]

set_option maxRecDepth 100000 in
set_option maxHeartbeats 2000000 in
theorem grow_nil (n : Nat) (h1 : 1 ≤ n) (h2 : n ≤ 1048576) (w : World) :
    Calls Try.prog 44 #[.slice none 0 0, .int .i64 n] w fun e w' => ∃ C : Nat, n ≤ C ∧ C ≤ maxLen ∧ e = .returned (.slice (some ⟨w.heap.size, 0, none⟩) 0 C) ∧ w'.rowIs w.heap.size 5 C (fun _ => .int .u8 0) ∧ Below w.heap.size w w' := by
  obtain ⟨i0, hi0, hz0, hs0, hby⟩ := u8info
  have hfit : Builtin.nextslicecap (0 + n) 0 * i0.bytes ≤ 281474976710656 := growslice_fits (by omega) (by rw [hby]; omega)
  have hold : (Builtin.firstCells i0.size 0 (.slice none 0 0)).run Try.prog w.drew = .ok #[] w.drew := run_firstCells_none w.drew i0.size 0 0 0
  have hrz := fun ty => Lib.run_append_grow_zeros (P := Try.prog) w 24 3 ty 5 i0 (.int .u8 0) .i64 .i64 Try.underlying24 Try.underlying3 hi0 hz0 none 0 0 [] hold n (by omega) (by omega) (by omega) (by omega) (by rw [hby]; omega) hfit
  obtain ⟨C, hC⟩ : ∃ C, grownCap w (0 + n) 0 5 = C := ⟨_, rfl⟩
  have hC1 : n ≤ C := by have := grownCap_ge w (0 + n) 0 5; omega
  have hC2 : C ≤ maxLen := by have := grownCap_le_maxLen w (0 + n) 0 5 (by unfold maxLen; omega); omega
  have hC3 : (C : Int) ≤ 9223372036854775807 := by unfold maxLen at hC2; omega
  rw [hC] at hrz
  obtain ⟨Z, hZ⟩ : ∃ Z, (([] : List Value).toArray ++ Builtin.zeroCells (Value.int .u8 0).cells n ++ Builtin.zeroCells (Value.int .u8 0).cells (C - (0 + n))) = Z := ⟨_, rfl⟩
  rw [hZ] at hrz
  have hZs : Z.size = C := by rw [← hZ]; simp [zeros_size]; omega
  have hZg : ∀ j, j < C → Z[j]? = some (.int .u8 0) := by
    intro j hj
    rw [← hZ]
    by_cases hjn : j < n
    · rw [Array.getElem?_append_left (by simp [zeros_size]; omega)]
      rw [show ([] : List Value).toArray ++ Builtin.zeroCells (Value.int .u8 0).cells n = Builtin.zeroCells (Value.int .u8 0).cells n from by simp]
      exact zeros_get n j hjn
    · rw [Array.getElem?_append_right (by simp [zeros_size]; omega)]
      exact zeros_get _ _ (by simp [zeros_size]; omega)
  have HR := Lib.hid hrz
  have HZ := Lib.hid (And.intro hZs hZg)
  have HM := Lib.hid hC2
  clear hrz hZ hZs hZg hC hold hfit hC2
  have n0 : decide ((n : Int) < 0) = false := decide_eq_false (by omega)
  go_enter Try.func44, Try.ntmps44
  go_wp2_with (at_builtin; refine Lib.wpList_append_run _ rfl _ _ _ _ rfl _ _ rfl rfl _ _ (HR.out _) ?_)
  all_goals
    go_ret
    have hrow := World.rowIs_alloc w.drew Z 5 (fun _ => .int .u8 0) (fun i hi => HZ.out.2 i (by have := HZ.out.1; omega))
    rw [HZ.out.1] at hrow
    exact ⟨C, hC1, HM.out, rfl, hrow, by go_grown⟩

/-- A memory's own four cells while it is made. -/
def memF (m g1 k : Nat) (A2 : Option Addr) (j c2 : Nat) (B3 : Value) : Nat → Value
  | 0 => .pointer (some ⟨m, 0, none⟩)
  | 1 => .slice (some ⟨g1, 0, none⟩) k k
  | 2 => .slice A2 j c2
  | _ => B3
def starts (r : Rg) (j : Nat) : List Value := (List.range j).map fun i => .int .i64 (sum r i)
theorem starts_succ (r : Rg) (j : Nat) : starts r (j + 1) = starts r j ++ [.int .i64 (sum r j)] := by unfold starts; rw [List.range_succ, List.map_append]; rfl
def stR (r : Rg) : Rg := ⟨r.at_, r.len, sum r⟩

theorem own_slice {w : World} {base : Nat} {e : TypeId} {size n : Nat} {v : Value} {xs : List Value} (h : w.ownsRow base e size v n xs) : ∃ A c, v = .slice A n c := by
  rcases h.2 with ⟨h1, h2⟩ | ⟨g, cap, cur, h1, _⟩
  · exact ⟨_, _, by rw [h1, h2]⟩
  · exact ⟨_, _, h1⟩
theorem own_block {w : World} {base : Nat} {e : TypeId} {size n c : Nat} {A : Option Addr} {xs : List Value} (h : w.ownsRow base e size (.slice A n c) n xs) : ∀ g, (Value.slice A n c).ownBlock = some g → base ≤ g := by
  intro g hg
  rcases h.2 with ⟨h1, h2⟩ | ⟨g', cap, cur, h1, hb, _⟩
  · rw [h1] at hg; cases hg
  · rw [h1] at hg; cases hg; exact hb
/-- A block that is not the row's own is as it was. -/
theorem kept_row {w w' : World} {row : Option Nat} {b : Nat} {t : TypeId} {n : Nat} {f : Nat → Value} (h : w.rowIs b t n f) (g : w.grownBy w' row) (hne : row ≠ some b) : w'.rowIs b t n f := h.of_block (g.block b h.lt (fun e => hne e.symm))

theorem grown_refl (w : World) (row : Option Nat) : w.grownBy w row := ⟨rfl, rfl, rfl, Nat.le_refl _, fun _ _ _ => rfl⟩
theorem grown_setCells (b : Nat) : ∀ (vs : List Value) (o : Nat) (a w : World), a.grownBy w (some b) → a.grownBy (w.setCells b o vs) (some b)
  | [], _, _, _, h => h
  | v :: vs, o, a, w, h => grown_setCells b vs (o + 1) a _ (only_setCell h (.inl rfl) v)
theorem own_ne {w w' : World} {base : Nat} {e : TypeId} {size n c : Nat} {A : Option Addr} {xs : List Value} {row : Option Nat} (h : w.ownsRow base e size (.slice A n c) n xs) (hg : w.grownBy w' row) (hne : ∀ b, row = some b → b < base ∨ w.heap.size ≤ b) : w'.ownsRow base e size (.slice A n c) n xs := by
  refine h.kept hg ?_
  cases ho : (Value.slice A n c).ownBlock with
  | none => exact .inl rfl
  | some g =>
    right
    intro e
    have h1 := own_block h g ho
    have h2 := (h.lt g ho).2
    have := hne g e.symm
    omega

set_option maxRecDepth 100000 in
set_option maxHeartbeats 8000000 in
theorem new_ok (A : Option Addr) (k c : Nat) (r : Rg) (w : World) (hk0 : 0 < k) (hk : k ≤ 16) (hr : Raw r k) (hs : ∀ i, i < k → Step r i) (h : Lst w w.heap.size A k r) :
    Calls Try.prog 9 #[.slice A k c] w fun e w' => ∃ (m g1 b3 c2 n3 c3 : Nat) (A2 : Option Addr), e = .returned (.tuple #[.pointer (some ⟨m, 0, none⟩), .int .i64 0]) ∧ MemAt w' m k g1 A2 (some ⟨b3, 0, none⟩) k c2 n3 c3 (stR r) ∧
      (n3 : Int) = sum r k ∧ n3 ≤ c3 ∧ w'.rowIs b3 5 c3 (fun _ => .int .u8 0) ∧ w.heap.size ≤ m ∧ w.heap.size ≤ g1 ∧ g1 < m ∧ m < b3 ∧ (∀ a, A2 = some a → m < a.block ∧ a.block < b3) ∧ Below w.heap.size w w' := by
  have hb0 : Below w.heap.size w w := Below.refl _ _
  obtain ⟨i1, hi1, hz1, hs1', hby1⟩ := intinfo
  have I1 := Lib.hid hi1
  have I2 := Lib.hid hz1
  have I3 := Lib.hid hs1'
  have I4 := Lib.hid hby1
  have HR := Lib.hid hr
  have HS := Lib.hid hs
  have HL := Lib.hid h
  clear hi1 hz1 hs1' hby1 hr hs h
  go_enter Try.func9, Try.ntmps9
  go_wp2_with fail
  refine (check_ok A k c r _ hk HR.out HS.out HL.out).mono ?_
  rintro eE W1 ⟨rfl, hg1⟩
  have hb1 : Below w.heap.size w W1 := (show Below w.heap.size w _ by go_grown).trans (hg1.mono (by first | omega | go_size))
  obtain ⟨hc1, hf1⟩ := bcell hg1
  have hs1 := hg1.size
  try simp only [World.size_alloc, World.size_setCell, World.size_drew] at hs1
  clear hg1 hc1 hf1
  go_wp2_with fail
  have hL1 : Lst W1 W1.heap.size A k r := (HL.out.below hb1).more hs1
  (with_reducible refine (copied_rg A k c r _ hk0 (by omega) hL1).mono ?_)
  rintro eE W2 ⟨g1, rfl, hg1, hrow1, hg2⟩
  have hb2 : Below w.heap.size w W2 := hb1.trans (hg2.mono hs1)
  have hs2 := hg2.size
  have hlt1 := hrow1.lt
  have H1 := Lib.hid hrow1
  clear hL1 hg2 hrow1
  obtain ⟨m, hm⟩ : ∃ m, W2.heap.size = m := ⟨_, rfl⟩
  have HM := Lib.hid hm
  go_wp2_with fail
  have hmrow : (W2.alloc (.cells #[.pointer (some ⟨m, 0, none⟩), .slice (some ⟨g1, 0, none⟩) k k, .slice none 0 0, .slice none 0 0] 78)).rowIs m 78 4 (memF m g1 k none 0 0 (.slice none 0 0)) := by
    have := World.rowIs_alloc W2 #[.pointer (some ⟨m, 0, none⟩), .slice (some ⟨g1, 0, none⟩) k k, .slice none 0 0, .slice none 0 0] 78 (memF m g1 k none 0 0 (.slice none 0 0)) (fun i hi => by
      match i, hi with
      | 0, _ => rfl
      | 1, _ => rfl
      | 2, _ => rfl
      | 3, _ => rfl)
    rwa [hm] at this
  have HMR := Lib.hid hmrow
  clear hmrow
  go_loopw [6, 24] (fun x y wr => ∃ (j c2 : Nat) (A2 : Option Addr), j ≤ k ∧ x = .int .i64 (sum r j) ∧ y = .int .i64 j ∧ wr.rowIs m 78 4 (memF m g1 k A2 j c2 (.slice none 0 0)) ∧ wr.ownsRow (m + 1) 3 1 (.slice A2 j c2) j (starts r j) ∧ wr.rowIs g1 75 (k * 2) r.cell ∧ m + 1 ≤ wr.heap.size ∧ Below w.heap.size w wr) (fun x y wr => k - (intOf y).toNat)
  case atStart => exact ⟨0, 0, none, by omega, rfl, rfl, HMR.out, ⟨rfl, .inl ⟨rfl, rfl⟩⟩, H1.out.alloc _, by simp [HM.out], hb2.alloc hb2.size _⟩
  case round =>
    obtain ⟨j, c2, A2, hj, rfl, rfl, hmr, hown, hgr, hms, hb⟩ := hrel
    have m0 := hmr.cell (i := 0) (by omega)
    have m1 := hmr.cell (i := 1) (by omega)
    have m2 := hmr.cell (i := 2) (by omega)
    have m3 := hmr.cell (i := 3) (by omega)
    simp only [memF] at m0 m1 m2 m3
    have z2 := hmr.frozen 2
    have z3 := hmr.frozen 3
    have hlm := hmr.lt
    by_cases hlt : j < k
    · obtain ⟨ad, hA, had, hc⟩ := (HL.out.below hb) (by omega)
      have c0 := el0 hc hlt (by decide)
      have c1 := elj hc hlt 1 (by decide) (by decide)
      rw [Rg.cell0] at c0
      rw [Rg.cell1] at c1
      obtain ⟨s1, s2, s3, s4⟩ := HS.out j hlt
      obtain ⟨r1, r2, r3, r4⟩ := HR.out j hlt
      have t1 := sum_lo HR.out j hj
      clear hc s4
      subst hA
      have hsw := hb.size
      have hob := own_block hown
      have hol := hown.lt
      have hown2 := (hown.alloc (.cells #[.int .u64 (r.at_ j), .int .u64 (r.len j)] 75)).alloc (.cells #[.int .i64 (sum r j)] 3)
      have hmr2 := (hmr.alloc (.cells #[.int .u64 (r.at_ j), .int .u64 (r.len j)] 75)).alloc (.cells #[.int .i64 (sum r j)] 3)
      have hgr2 := (hgr.alloc (.cells #[.int .u64 (r.at_ j), .int .u64 (r.len j)] 75)).alloc (.cells #[.int .i64 (sum r j)] 3)
      have hrr : (wr.alloc (.cells #[.int .u64 (r.at_ j), .int .u64 (r.len j)] 75)).rowIs wr.heap.size 75 2 (fun i => if i = 0 then .int .u64 (r.at_ j) else .int .u64 (r.len j)) :=
        World.rowIs_alloc wr #[.int .u64 (r.at_ j), .int .u64 (r.len j)] 75 _ (fun i hi => by
          match i, hi with
          | 0, _ => rfl
          | 1, _ => rfl)
      have hrr2 := hrr.alloc (.cells #[.int .i64 (sum r j)] 3)
      have hb3 : Below w.heap.size w ((wr.alloc (.cells #[.int .u64 (r.at_ j), .int .u64 (r.len j)] 75)).alloc (.cells #[.int .i64 (sum r j)] 3)) := (hb.alloc hsw _).alloc (by simp; omega) _
      have HO := Lib.hid hown2
      have HMR2 := Lib.hid hmr2
      have HGR2 := Lib.hid hgr2
      have HRR2 := Lib.hid hrr2
      have HOB := Lib.hid hob
      have HOL := Lib.hid hol
      have HNEW : Hid (∀ (i : Nat) (u : Value), [Value.int .i64 (sum r j)][i]? = some u → ((wr.alloc (.cells #[.int .u64 (r.at_ j), .int .u64 (r.len j)] 75)).alloc (.cells #[.int .i64 (sum r j)] 3)).cell? ((⟨wr.heap.size + 1, 0, none⟩ : Addr).add i) = some u) := Lib.hid (by
        intro i u hu
        match i, hu with
        | 0, hu =>
          cases hu
          have := (World.rowIs_alloc (wr.alloc (.cells #[.int .u64 (r.at_ j), .int .u64 (r.len j)] 75)) #[.int .i64 (sum r j)] 3 (fun _ => .int .i64 (sum r j)) (fun i hi => by
            match i, hi with
            | 0, _ => rfl)).cell (i := 0) (by simp)
          rw [World.size_alloc] at this
          exact this)
      clear hown2 hmr2 hgr2 hrr hrr2 hob hol hmr hown hgr
      go_wp2_with (at_builtin; refine wpList_append_own _ rfl _ _ 54 rfl (m + 1) 3 i1 (.int .i64 0) 1 8 Try.underlying54 I1.out I2.out I3.out I4.out rfl (by decide) (.slice A2 j c2) j (starts r j) rfl HO.out ⟨wr.heap.size + 1, 0, none⟩ 1 1 [.int .i64 (sum r j)] rfl rfl HNEW.out (by simp [Value.oneCell']) (by unfold maxLen; omega) (by omega) (by simp; omega) ?_)
      intro v3 W3 hown3 g3 _
      obtain ⟨A3, c3, rfl⟩ := own_slice hown3
      have hne : ∀ b, b ≤ m ∨ b = wr.heap.size → (Value.slice A2 j c2).ownBlock ≠ some b := by
        intro b hb' e
        have e1 := HOB.out b e
        have e2 := (HOL.out b e).2
        omega
      have hmr3 := kept_row HMR2.out g3 (hne m (.inl (Nat.le_refl _)))
      have hgr3 := kept_row HGR2.out g3 (hne g1 (.inl (by omega)))
      have hrr3 := kept_row HRR2.out g3 (hne wr.heap.size (.inr rfl))
      have hb4 : Below w.heap.size w W3 := hb3.grown g3 (by simp; omega) (fun b e => by have := HOB.out b e; omega)
      have x2 := hmr3.cell (i := 2) (by omega)
      simp only [memF] at x2
      have xz2 := hmr3.frozen 2
      have y1 := hrr3.cell (i := 1) (by omega)
      have y1' : W3.cell? ⟨wr.heap.size, 1, none⟩ = some (.int .u64 (r.len j)) := y1
      have hs3 := g3.size
      rw [World.size_alloc, World.size_alloc] at hs3
      have K1 := Lib.hid hmr3
      have K2 := Lib.hid hgr3
      have K3 := Lib.hid hown3
      clear c0 c1 hmr3 hgr3 hrr3 hown3 g3 y1 m0 m1 m2 m3 z2 z3
      go_wp2_with fail
      go_roundw
      case rel =>
        refine ⟨j + 1, c3, A3, by omega, by first | rfl | (rw [show sum r (j + 1) = sum r j + r.len j from rfl]; go_num), by go_num, ?_, ?_, K2.out.setOther (by show g1 ≠ m; omega) _, by simp only [World.size_setCell]; omega, ?_⟩
        · refine (K1.out.set 2 (.slice A3 (j + 1) c3)).congr fun i hi => ?_
          match i, hi with
          | 0, _ => rfl
          | 1, _ => rfl
          | 2, _ => rfl
          | 3, _ => rfl
        · rw [starts_succ]
          refine K3.out.kept (row := some m) ⟨rfl, rfl, rfl, by simp [World.setCell], fun b hb' hne' => Below.heap_setCell W3 _ _ b (by rintro rfl; exact hne' rfl)⟩ (.inr fun e => ?_)
          have := own_block K3.out _ e
          omega
        · exact hb4.setCell (by show w.heap.size ≤ m; omega) _
      case measure => simp [intOf]; omega
    · obtain rfl : j = k := by omega
      obtain ⟨N, hN, hN1, hN2⟩ : ∃ N : Nat, sum r j = (N : Int) ∧ 1 ≤ N ∧ N ≤ 1048576 := by
        obtain ⟨p, rfl⟩ : ∃ p, j = p + 1 := ⟨j - 1, by omega⟩
        obtain ⟨p1, p2, _, _⟩ := HS.out p (by omega)
        have p3 := sum_lo HR.out p (by omega)
        have p4 : sum r (p + 1) = sum r p + r.len p := rfl
        exact ⟨(sum r (p + 1)).toNat, by omega, by omega, by omega⟩
      rw [hN]
      have HN := Lib.hid hN
      have HOW := Lib.hid hown
      have HMW := Lib.hid hmr
      have HGW := Lib.hid hgr
      clear hN hown hmr hgr m1 m2
      go_wp2_with fail
      (with_reducible refine (grow_nil N hN1 hN2 _).mono ?_)
      rintro eE W4 ⟨C, hC1, hC2, rfl, hrow4, hg4⟩
      have hC3 : (C : Int) ≤ 9223372036854775807 := by unfold maxLen at hC2; omega
      have hsg := hg4.size
      have hmr4 := HMW.out.of_block (hg4.block m hlm)
      have hgr4 := HGW.out.of_block (hg4.block g1 (by omega))
      have how4 := own_ne HOW.out (only_of_below hg4 none) (fun b e => by cases e)
      have hb4 : Below w.heap.size w W4 := hb.trans (hg4.mono hb.size)
      have q3 := hmr4.cell (i := 3) (by omega)
      simp only [memF] at q3
      have qz3 := hmr4.frozen 3
      have hcl : ∀ ty, (Builtin.clear_ #[24] ty #[.slice (some ⟨wr.heap.size, 0, none⟩) N C]).run Try.prog (W4.setCell ⟨m, 3, none⟩ (.slice (some ⟨wr.heap.size, 0, none⟩) N C)) = .ok (.tuple #[]) ((W4.setCell ⟨m, 3, none⟩ (.slice (some ⟨wr.heap.size, 0, none⟩) N C)).setCells wr.heap.size 0 (List.replicate N (.int .u8 0))) := fun ty => by
        have hr5 := hrow4.setOther (a := ⟨m, 3, none⟩) (by show wr.heap.size ≠ m; omega) (.slice (some ⟨wr.heap.size, 0, none⟩) N C)
        exact Lib.run_clear_slice _ 24 5 ty (.int .u8 0) Try.underlying24 u8zero rfl rfl wr.heap.size 0 N C (by omega) (fun i hi => by rw [Nat.zero_add, hr5.cell (by omega)]; rfl) (fun i hi => hr5.frozen _)
      have HCL := Lib.hid hcl
      have K1 := Lib.hid hmr4
      have K2 := Lib.hid hgr4
      have K3 := Lib.hid how4
      have K4 := Lib.hid hrow4
      have K5 := Lib.hid hC2
      clear hcl hmr4 hgr4 how4 hrow4 hg4 hC2 m0 m3 z2 z3
      go_wp2_with (simp only [HCL.out])
      have how5 : (W4.setCell ⟨m, 3, none⟩ (.slice (some ⟨wr.heap.size, 0, none⟩) N C)).ownsRow (m + 1) 3 1 (.slice A2 j c2) j (starts r j) :=
        own_ne K3.out (row := some m) (only_setCell (grown_refl _ _) (.inl rfl) _) (fun b e => by cases e; left; omega)
      have hlo := HOW.out.lt
      have hne5 : (Value.slice A2 j c2).ownBlock ≠ some wr.heap.size := fun e => by have := (hlo _ e).2; omega
      have how6 := how5.kept (grown_setCells wr.heap.size (List.replicate N (.int .u8 0)) 0 _ _ (grown_refl _ _)) (.inr hne5)
      have hm5 : (W4.setCell ⟨m, 3, none⟩ (.slice (some ⟨wr.heap.size, 0, none⟩) N C)).rowIs m 78 4 (memF m g1 j A2 j c2 (.slice (some ⟨wr.heap.size, 0, none⟩) N C)) :=
        (K1.out.set 3 (.slice (some ⟨wr.heap.size, 0, none⟩) N C)).congr fun i hi => by
          match i, hi with
          | 0, _ => rfl
          | 1, _ => rfl
          | 2, _ => rfl
          | 3, _ => rfl
      have hm6 := Go.rowIs_setCells_other (b := wr.heap.size) (show m ≠ wr.heap.size by omega) (List.replicate N (.int .u8 0)) 0 _ hm5
      have hg6 := Go.rowIs_setCells_other (b := wr.heap.size) (show g1 ≠ wr.heap.size by omega) (List.replicate N (.int .u8 0)) 0 _ (K2.out.setOther (a := ⟨m, 3, none⟩) (by show g1 ≠ m; omega) (.slice (some ⟨wr.heap.size, 0, none⟩) N C))
      have hr6 := (Go.rowIs_setCells (List.replicate N (.int .u8 0)) 0 _ _ (K4.out.setOther (a := ⟨m, 3, none⟩) (by show wr.heap.size ≠ m; omega) (.slice (some ⟨wr.heap.size, 0, none⟩) N C))).congr (g := fun _ => .int .u8 0) fun i hi => by
        split
        · rename_i hh
          have h2 : i - 0 < N := by have := hh.2; simp at this; omega
          rw [List.getElem?_replicate, if_pos h2]; rfl
        · rfl
      have hb6 : Below w.heap.size w ((W4.setCell ⟨m, 3, none⟩ (.slice (some ⟨wr.heap.size, 0, none⟩) N C)).setCells wr.heap.size 0 (List.replicate N (.int .u8 0))) :=
        Go.below_setCells hb.size _ _ _ (hb4.setCell (by show w.heap.size ≤ m; omega) _)
      have HF := Lib.hid (And.intro how6 (And.intro hm6 (And.intro hg6 (And.intro hr6 hb6))))
      clear how5 how6 hm5 hm6 hg6 hr6 hb6 hne5
      generalize hWF : ((W4.setCell ⟨m, 3, none⟩ (.slice (some ⟨wr.heap.size, 0, none⟩) N C)).setCells wr.heap.size 0 (List.replicate N (.int .u8 0))) = WF at HF ⊢
      go_returns
      obtain ⟨f1, f2, f3, f4, f5⟩ := HF.out
      refine ⟨m, g1, wr.heap.size, c2, N, C, A2, rfl, ⟨f2.cell (i := 0) (by omega), f2.cell (i := 1) (by omega), f2.cell (i := 2) (by omega), f2.cell (i := 3) (by omega), f2.lt, f3.lt, fun i hi => f3.cell hi, fun b o _ hbo => ?_, ?_⟩, HN.out.symm, hC1, f4, by omega, by omega, by omega, by omega, ?_, f5⟩
      · rcases hbo with rfl | rfl
        · exact f2.frozen o
        · exact f3.frozen o
      · refine (IsRow.of_own f1).congr fun i hi => ?_
        have hi' : i < j := by omega
        unfold starts stR
        simp [List.getD_eq_getElem?_getD, hi']
      · intro a ha
        subst ha
        have h1 := own_block f1 a.block rfl
        have h2 := (hlo a.block rfl).2
        exact ⟨by omega, h2⟩

end Go.Proofs.Ytkejcdephnkkgaa.GmNew

/- The document's own memory: a round of its New, whatever the order of its operations. -/
namespace Go.Proofs.Ytkejcdephnkkgaa.GmRefN
open Go.RowKit Rw GmFind GmWord GmCheck GmNew Asr2
set_option linter.unusedVariables false
set_option linter.unusedSimpArgs false
set_option linter.unusedSectionVars false

noncomputable def OPS : Array Oper := Asrt.opsOf Try.f11 7

/-- One part's slice. -/
def sl (p : Nat × Nat) : Value := .slice (some ⟨p.1, 0, none⟩) p.2 p.2
/-- The parts: a row of their slices, each in a block of its own, of zeros. -/
structure Ps (W : World) (B mm : Nat) (v : Value) (ps : List (Nat × Nat)) : Prop where
  own : W.ownsRow B 24 1 v ps.length (ps.map sl)
  om : v.ownBlock ≠ some mm
  row : ∀ p ∈ ps, B ≤ p.1 ∧ p.1 ≠ mm ∧ W.rowIs p.1 5 p.2 (fun _ => .int .u8 0)
  nd : (ps.map (·.1)).Nodup
def MM (W : World) (mm : Nat) (L u : Value) : Prop := W.rowIs mm 82 2 (fun i => if i = 0 then L else u)
/-- A part that is on its way into the row. -/
structure Nw (W : World) (B mm : Nat) (v : Value) (ps : List (Nat × Nat)) (b N : Nat) : Prop where
  pp : Ps W B mm v ps
  b0 : B ≤ b
  bm : b ≠ mm
  fr : ∀ p ∈ ps, p.1 ≠ b
  row : W.rowIs b 5 N (fun _ => .int .u8 0)

theorem own_ty {W : World} {B n b N : Nat} {v : Value} {xs : List Value} {f : Nat → Value} (ho : W.ownsRow B 24 1 v n xs) (h : W.rowIs b 5 N f) : v.ownBlock ≠ some b := by
  intro e
  rcases ho.2 with ⟨h3, _⟩ | ⟨g', cap, cur, h3, _, hh, _⟩
  · rw [h3] at e; cases e
  · rw [h3] at e
    cases e
    obtain ⟨cur', hh', _⟩ := h
    rw [hh] at hh'
    injection hh' with hh'
    injection hh' with _ ht
    exact absurd ht (by decide)

section
variable {W W' : World} {B mm b N : Nat} {v u L : Value} {ps : List (Nat × Nat)}
theorem Ps.grown (h : Ps W B mm v ps) (hg : W.grownBy W' none) : Ps W' B mm v ps :=
  ⟨h.own.kept hg (by cases v.ownBlock <;> simp), h.om, fun p hp => ⟨(h.row p hp).1, (h.row p hp).2.1, kept_row (h.row p hp).2.2 hg (by simp)⟩, h.nd⟩
theorem Nw.grown (h : Nw W B mm v ps b N) (hg : W.grownBy W' none) : Nw W' B mm v ps b N :=
  ⟨h.pp.grown hg, h.b0, h.bm, h.fr, kept_row h.row hg (by simp)⟩
theorem MM.grown {row : Option Nat} (h : MM W mm L u) (hg : W.grownBy W' row) (hr : row ≠ some mm) : MM W' mm L u := kept_row h hg hr
theorem grown_set (W : World) (a : Addr) (u : Value) : W.grownBy (W.setCell a u) (some a.block) :=
  ⟨rfl, rfl, rfl, by simp [World.setCell], fun k _ hne => Go.Deep.blk_setCell_other _ _ _ _ (fun e => hne (by rw [e]))⟩
theorem MM.set (h : MM W mm L u) (v : Value) : MM (W.setCell ⟨mm, 1, none⟩ v) mm L v :=
  (World.rowIs.set h 1 v).congr fun i hi => by
    match i, hi with
    | 0, _ => rfl
    | 1, _ => rfl
theorem Ps.set (h : Ps W B mm v ps) (u : Value) : Ps (W.setCell ⟨mm, 1, none⟩ u) B mm v ps :=
  have hg := grown_set W ⟨mm, 1, none⟩ u
  ⟨h.own.kept hg (.inr h.om), h.om, fun p hp => ⟨(h.row p hp).1, (h.row p hp).2.1, kept_row (h.row p hp).2.2 hg (fun e => (h.row p hp).2.1 (by cases e; rfl))⟩, h.nd⟩
theorem Nw.append {v' : Value} (h : Nw W B mm v ps b N) (hl : mm < W.heap.size) (ho : W'.ownsRow B 24 1 v' (ps.length + 1) (ps.map sl ++ [sl (b, N)])) (hg : W.grownBy W' v.ownBlock)
    (ha : v'.ownBlock = v.ownBlock ∨ v'.ownBlock = some W.heap.size) : Ps W' B mm v' (ps ++ [(b, N)]) := by
  refine ⟨by simpa using ho, ?_, ?_, ?_⟩
  · rcases ha with e | e
    · rw [e]; exact h.pp.om
    · rw [e]; intro e; cases e; omega
  · intro p hp
    rcases List.mem_append.1 hp with hp | hp
    · have := h.pp.row p hp
      exact ⟨this.1, this.2.1, kept_row this.2.2 hg (own_ty h.pp.own this.2.2)⟩
    · obtain rfl := List.mem_singleton.1 hp
      exact ⟨h.b0, h.bm, kept_row h.row hg (own_ty h.pp.own h.row)⟩
  · rw [List.map_append, List.nodup_append]
    refine ⟨h.pp.nd, by simp, fun x hx y hy => ?_⟩
    obtain ⟨p, hp, rfl⟩ := List.mem_map.1 hx
    obtain rfl : y = b := by simpa using hy
    exact h.fr p hp
end

section
variable {w V W : World} {o : Oper} {a : Act}
theorem x_field {s m : Nat} (hs : a.tmps.getD s undef = .pointer (some ⟨m, 0, none⟩)) (hop : o.op = .fieldAddr 82 (.tmp s) 1) : (execOp a.eval o).run Try.prog W = .ok (.value (.pointer (some ⟨m, 1, none⟩))) W := by
  simp only [execOp, hop, Act.eval, hs]
  simp [go_sem]
theorem x_index {s q k c i : Nat} {A : Addr} (hs : a.tmps.getD s undef = .slice (some A) k c) (hq : a.tmps.getD q undef = .int .i64 (i : Int)) (hi : i < k) (hop : o.op = .indexAddr 22 (.tmp s) (.tmp q)) : (execOp a.eval o).run Try.prog W = .ok (.value (.pointer (some (A.add (i * 2))))) W := by
  have h1 : ¬ k ≤ i := by omega
  simp only [execOp, hop, Act.eval, hs, hq]
  simp [go_sem, h1]
theorem x_field1 {s : Nat} {A : Addr} (hs : a.tmps.getD s undef = .pointer (some A)) (hop : o.op = .fieldAddr 75 (.tmp s) 1) : (execOp a.eval o).run Try.prog W = .ok (.value (.pointer (some ⟨A.block, A.off + 1, none⟩))) W := by
  simp only [execOp, hop, Act.eval, hs]
  simp [go_sem]
theorem x_load {s : Nat} {t : TypeId} {A : Addr} {v : Value} (hs : a.tmps.getD s undef = .pointer (some A)) (ht : t = 80 ∨ t = 25) (hc : W.cell? A = some v) (hop : o.op = .load t (.tmp s)) : (execOp a.eval o).run Try.prog W = .ok (.value v) W := by
  rcases ht with rfl | rfl <;>
  · simp only [execOp, hop, Act.eval, hs]
    simp [go_sem, hc]
theorem x_store {s q m n c : Nat} {A : Option Addr} (hs : a.tmps.getD s undef = .pointer (some ⟨m, 1, none⟩)) (hq : a.tmps.getD q undef = .slice A n c) {L u : Value} (hM : MM W m L u) (hop : o.op = .store 80 (.tmp s) (.tmp q)) : (execOp a.eval o).run Try.prog W = .ok .skip (W.setCell ⟨m, 1, none⟩ (.slice A n c)) := by
  have hc := hM.cell (i := 1) (by decide)
  have hf := hM.frozen 1
  simp only [execOp, hop, Act.eval, hs, hq]
  simp [go_sem, hc, hf]
theorem rowinfo : ∃ i, Try.prog.info? 24 = some i ∧ i.zero = some (.slice none 0 0) ∧ i.size = 1 ∧ i.bytes = 24 := by
  have h : (Try.prog.info? 24).map (fun i => (i.size, i.bytes)) = some (1, 24) := by kernel_rfl
  have h2 : (Try.prog.info? 24).bind (fun i => i.zero) = some (.slice none 0 0) := by kernel_rfl
  obtain ⟨i, hi, hs⟩ := Option.map_eq_some_iff.1 h
  rw [hi] at h2
  exact ⟨i, hi, h2, (Prod.mk.inj hs).1, (Prod.mk.inj hs).2⟩
theorem x_make {s N : Nat} {k : IntKind} (hs : a.tmps.getD s undef = .int k (N : Int)) (hN : N ≤ 1048576) (hop : o.op = .makeSlice 24 (.tmp s) (.tmp s)) :
    ∃ W', (execOp a.eval o).run Try.prog W = .ok (.value (sl (W.heap.size, N))) W' ∧ W'.rowIs W.heap.size 5 N (fun _ => .int .u8 0) ∧ W.grownBy W' none := by
  obtain ⟨i0, hi0, hz0, hs0, hby⟩ := u8info
  have hr := run_make (P := Try.prog) W 24 5 i0 (.int .u8 0) Try.underlying24 hi0 hz0 k k (N : Int) (N : Int) (by omega) (Int.le_refl _) (by rw [hby]; omega) (by omega)
  rw [hs0] at hr
  simp only [Int.toNat_natCast, Nat.mul_one] at hr
  refine ⟨_, ?_, World.rowIs_made W (.int .u8 0) N 5, World.grownBy_alloc W _ none⟩
  simp only [execOp, hop, Act.eval, hs, Sem.run_bind, hr, Result.andThen_ok, Sem.run_pure]
  rfl
theorem x_build {s : Nat} {A : Option Addr} {n c : Nat} (hs : a.tmps.getD s undef = .slice A n c) (hop : o.op = .buildSlice 80 1 #[(0, .tmp s)]) :
    (execOp a.eval o).run Try.prog W = .ok (.value (.slice (some ⟨W.heap.size, 0, none⟩) 1 1)) (W.alloc (.cells #[.slice A n c] 24)) := by
  simp only [execOp, hop, Act.eval, List.map_toArray, List.map_cons, List.map_nil, hs]
  simp [go_sem]
theorem x_append {s q B n g : Nat} {v x : Value} {xs : List Value} (hs : a.tmps.getD s undef = v) (hq : a.tmps.getD q undef = .slice (some ⟨g, 0, none⟩) 1 1) (hown : W.ownsRow B 24 1 v n xs) (hc : W.cell? ⟨g, 0, none⟩ = some x) (hx : x.oneCell' = true) (hn : n ≤ 1000) (hB : B ≤ W.heap.size)
    (hop : o.op = .call { callee := .builtin .append, args := #[.tmp s, .tmp q], argTypes := #[80, 80] }) :
    ∃ v' W', (execOp a.eval o).run Try.prog W = .ok (.value v') W' ∧ W'.ownsRow B 24 1 v' (n + 1) (xs ++ [x]) ∧ W.grownBy W' v.ownBlock ∧ (v'.ownBlock = v.ownBlock ∨ v'.ownBlock = some W.heap.size) := by
  obtain ⟨i0, hi0, hz0, hs0, hby⟩ := rowinfo
  obtain ⟨v', W', hr, h2, h3, _, h5⟩ := run_append_own_at (P := Try.prog) W B 80 o.type 24 i0 (.slice none 0 0) 1 24 Try.underlying80 hi0 hz0 hs0 hby rfl (by decide) v n xs hown ⟨g, 0, none⟩ 1 1 [x] rfl
    (fun j u hj => by
      match j, hj with
      | 0, hj => cases hj; exact hc) (fun u hu => by obtain rfl := List.mem_singleton.1 hu; exact hx) (by unfold maxLen; omega) (by omega) hB
  refine ⟨v', W', ?_, h2, h3, h5⟩
  simp only [execOp, hop, resolve, invoke, builtin, Act.eval, Sem.run_bind, Sem.run_pure, Result.andThen_ok, List.map_toArray, List.map_cons, List.map_nil, hs, hq, hr]
theorem x_nil {s : Nat} {p : Addr} (hs : a.tmps.getD s undef = .pointer (some p)) (hop : o.op = .nilCheck (.tmp s)) : (execOp a.eval o).run Try.prog W = .ok (.value (.pointer (some p))) W := by
  simp only [execOp, hop, Act.eval, hs, Sem.run_pure]
end

/-- What the round reads and writes: the memory mm, its row v of the parts so far, the list's element i, N bytes long. -/
structure Rd where
  (w0 : World) (B mm k c i N : Nat) (A : Addr) (L v : Value) (ps : List (Nat × Nat))
def Rd.P (r : Rd) (W : World) : Prop := Ps W r.B r.mm r.v r.ps
def Rd.M (r : Rd) (W : World) : Prop := MM W r.mm r.L r.v
def Rd.fld (r : Rd) : Addr := ⟨(r.A.add (r.i * 2)).block, (r.A.add (r.i * 2)).off + 1, none⟩
def Rd.isP (r : Rd) (c : Value) : As2 := fun x W => x = c ∧ r.P W
def Rd.isM (r : Rd) (c : Value) : As2 := fun x W => x = c ∧ r.M W
def Rd.TL (r : Rd) : List (Nat × As2) := [
  (0, r.isP (.slice (some r.A) r.k r.c)), (4, r.isM (.pointer (some ⟨r.mm, 0, none⟩))), (5, is (.int .i64 (r.i : Int))),
  (20, is (.pointer (some ⟨r.mm, 0, none⟩))), (21, r.isM (.pointer (some ⟨r.mm, 0, none⟩))), (22, r.isM (.pointer (some ⟨r.mm, 0, none⟩))), (23, r.isM (.pointer (some ⟨r.mm, 1, none⟩))), (24, is r.v),
  (25, r.isP (.slice (some r.A) r.k r.c)), (26, is (.int .i64 (r.i : Int))), (27, r.isP (.pointer (some (r.A.add (r.i * 2))))), (28, r.isP (.pointer (some r.fld))), (29, r.isP (.int .u64 (r.N : Int))),
  (30, fun x W => ∃ b, x = sl (b, r.N) ∧ Nw W r.B r.mm r.v r.ps b r.N), (31, fun x W => ∃ g b, x = .slice (some ⟨g, 0, none⟩) 1 1 ∧ g < W.heap.size ∧ W.cell? ⟨g, 0, none⟩ = some (sl (b, r.N)) ∧ Nw W r.B r.mm r.v r.ps b r.N),
  (32, fun x W => ∃ b, Ps W r.B r.mm x (r.ps ++ [(b, r.N)])), (33, is (.pointer (some ⟨r.mm, 0, none⟩))), (34, is (.pointer (some ⟨r.mm, 1, none⟩)))]
def Rd.C (r : Rd) (W : World) : Prop := Below r.B r.w0 W ∧ r.B ≤ W.heap.size ∧ ∃ u, MM W r.mm r.L u
def Rd.E (r : Rd) (j : Nat) (W : World) : Prop := j = 15 → ∃ x b, MM W r.mm r.L x ∧ Ps W r.B r.mm x (r.ps ++ [(b, r.N)])
/-- What the round begins with. -/
structure Rd.Ok (r : Rd) : Prop where
  hB : r.B ≤ r.mm
  hA : r.A.block < r.B
  hi : r.i < r.k
  hN : r.N ≤ 1048576
  hl : r.ps.length ≤ 1000
  hc : r.w0.cell? r.fld = some (.int .u64 (r.N : Int))

section
variable {r : Rd} {W W' : World}
theorem Rd.C.grown (h : r.C W) (hg : W.grownBy W' none) : r.C W' :=
  ⟨h.1.grown hg h.2.1 (fun _ e => by cases e), Nat.le_trans h.2.1 hg.size, h.2.2.imp fun u hu => hu.grown hg (by simp)⟩
theorem stay_is (c : Value) : ∀ v, is c v W → is c v W' := fun _ h => h
theorem TL_grown (hg : W.grownBy W' none) : ∀ q ∈ r.TL, ∀ v, q.2 v W → q.2 v W' := by
  have hP : ∀ c v, r.isP c v W → r.isP c v W' := fun c v h => ⟨h.1, h.2.grown hg⟩
  have hM : ∀ c v, r.isM c v W → r.isM c v W' := fun c v h => ⟨h.1, MM.grown h.2 hg (by simp)⟩
  unfold Rd.TL
  simp only [List.mem_cons, List.not_mem_nil, or_false, forall_eq_or_imp, forall_eq]
  refine ⟨hP _, hM _, stay_is _, stay_is _, hM _, hM _, hM _, stay_is _, hP _, stay_is _, hP _, hP _, hP _, ?_, ?_, ?_, stay_is _, stay_is _⟩
  · rintro v ⟨b, h1, h2⟩
    exact ⟨b, h1, h2.grown hg⟩
  · rintro v ⟨g, b, h1, h2, h3, h4⟩
    exact ⟨g, b, h1, Nat.lt_of_lt_of_le h2 hg.size, (World.cell?_of_block (hg.block g h2 (by simp))).trans h3, h4.grown hg⟩
  · rintro v ⟨b, h1⟩
    exact ⟨b, h1.grown hg⟩
theorem E_grown (hg : W.grownBy W' none) (k : Nat) (h : r.E k W) : r.E k W' := fun e => by
  obtain ⟨x, b, h1, h2⟩ := h e
  exact ⟨x, b, h1.grown hg (by simp), h2.grown hg⟩
end

abbrev no : Nat → Bool := fun _ => false

theorem m15 : Nat.testBit ((Eng.masks OPS.toList []).getD 15 0) 12 = true := by kernel_rfl
section
variable (r : Rd) (h : r.Ok) (a : Act)
theorem tr (j : Nat) (hj : j ≠ 15) (W : World) : r.E j W := fun e => absurd e hj
theorem KK (j : Nat) (W W' : World) (hg : W.grownBy W' none) : Keeps OPS (tab r.TL a) no r.E j (OPS.getD j default) W W' := keeps_tab (fun q hq => .inr (TL_grown (r := r) hg q hq)) (fun k _ _ => E_grown (r := r) hg k)
include h
set_option maxRecDepth 100000 in
set_option maxHeartbeats 1000000 in
theorem ob0 : Ob Try.prog OPS r.C (tab r.TL a) no r.E 0 (OPS.getD 0 default) := by
  refine ob_move (s := 4) (d0 := 20) (Asrt.yes_plain (by kernel_rfl)) (by kernel_rfl) (tr r 0 (by decide)) (by kernel_rfl) (fun v w h => h.1)

set_option maxRecDepth 100000 in
set_option maxHeartbeats 1000000 in
theorem ob1 : Ob Try.prog OPS r.C (tab r.TL a) no r.E 1 (OPS.getD 1 default) := by
  refine ob_move (s := 4) (d0 := 21) (Asrt.yes_plain (by kernel_rfl)) (by kernel_rfl) (tr r 1 (by decide)) (by kernel_rfl) (fun v w h => h)

set_option maxRecDepth 100000 in
set_option maxHeartbeats 1000000 in
theorem ob2 : Ob Try.prog OPS r.C (tab r.TL a) no r.E 2 (OPS.getD 2 default) := by
  refine ob_val (d0 := 22) (Asrt.yes_plain (by kernel_rfl)) (by kernel_rfl) (tr r 2 (by decide)) (fun a_ W_ hC hT => ?_)
  have e : r.isM (.pointer (some ⟨r.mm, 0, none⟩)) (a_.tmps.getD 21 undef) W_ := hT 21 (by kernel_rfl)
  exact ⟨_, x_nil e.1 (by kernel_rfl), rfl, e.2⟩
set_option maxRecDepth 100000 in
set_option maxHeartbeats 1000000 in
theorem ob3 : Ob Try.prog OPS r.C (tab r.TL a) no r.E 3 (OPS.getD 3 default) := by
  refine ob_val (d0 := 23) (Asrt.yes_plain (by kernel_rfl)) (by kernel_rfl) (tr r 3 (by decide)) (fun a_ W_ hC hT => ?_)
  have e : r.isM (.pointer (some ⟨r.mm, 0, none⟩)) (a_.tmps.getD 22 undef) W_ := hT 22 (by kernel_rfl)
  exact ⟨_, x_field e.1 (by kernel_rfl), rfl, e.2⟩
set_option maxRecDepth 100000 in
set_option maxHeartbeats 1000000 in
theorem ob4 : Ob Try.prog OPS r.C (tab r.TL a) no r.E 4 (OPS.getD 4 default) := by
  refine ob_val (d0 := 24) (Asrt.yes_plain (by kernel_rfl)) (by kernel_rfl) (tr r 4 (by decide)) (fun a_ W_ hC hT => ?_)
  have e : r.isM (.pointer (some ⟨r.mm, 1, none⟩)) (a_.tmps.getD 23 undef) W_ := hT 23 (by kernel_rfl)
  exact ⟨_, x_load e.1 (.inl rfl) (World.rowIs.cell (i := 1) e.2 (by decide)) (by kernel_rfl), rfl⟩
set_option maxRecDepth 100000 in
set_option maxHeartbeats 1000000 in
theorem ob5 : Ob Try.prog OPS r.C (tab r.TL a) no r.E 5 (OPS.getD 5 default) := by
  refine ob_move (s := 0) (d0 := 25) (Asrt.yes_plain (by kernel_rfl)) (by kernel_rfl) (tr r 5 (by decide)) (by kernel_rfl) (fun v w h => h)

set_option maxRecDepth 100000 in
set_option maxHeartbeats 1000000 in
theorem ob6 : Ob Try.prog OPS r.C (tab r.TL a) no r.E 6 (OPS.getD 6 default) := by
  refine ob_move (s := 5) (d0 := 26) (Asrt.yes_plain (by kernel_rfl)) (by kernel_rfl) (tr r 6 (by decide)) (by kernel_rfl) (fun v w h => h)

set_option maxRecDepth 100000 in
set_option maxHeartbeats 1000000 in
theorem ob7 : Ob Try.prog OPS r.C (tab r.TL a) no r.E 7 (OPS.getD 7 default) := by
  refine ob_val (d0 := 27) (Asrt.yes_plain (by kernel_rfl)) (by kernel_rfl) (tr r 7 (by decide)) (fun a_ W_ hC hT => ?_)
  have e : r.isP (.slice (some r.A) r.k r.c) (a_.tmps.getD 25 undef) W_ := hT 25 (by kernel_rfl)
  have e2 : a_.tmps.getD 26 undef = .int .i64 (r.i : Int) := hT 26 (by kernel_rfl)
  exact ⟨_, x_index e.1 e2 h.hi (by kernel_rfl), rfl, e.2⟩
set_option maxRecDepth 100000 in
set_option maxHeartbeats 1000000 in
theorem ob8 : Ob Try.prog OPS r.C (tab r.TL a) no r.E 8 (OPS.getD 8 default) := by
  refine ob_val (d0 := 28) (Asrt.yes_plain (by kernel_rfl)) (by kernel_rfl) (tr r 8 (by decide)) (fun a_ W_ hC hT => ?_)
  have e : r.isP (.pointer (some (r.A.add (r.i * 2)))) (a_.tmps.getD 27 undef) W_ := hT 27 (by kernel_rfl)
  exact ⟨_, x_field1 e.1 (by kernel_rfl), rfl, e.2⟩
set_option maxRecDepth 100000 in
set_option maxHeartbeats 1000000 in
theorem ob9 : Ob Try.prog OPS r.C (tab r.TL a) no r.E 9 (OPS.getD 9 default) := by
  refine ob_val (d0 := 29) (Asrt.yes_plain (by kernel_rfl)) (by kernel_rfl) (tr r 9 (by decide)) (fun a_ W_ hC hT => ?_)
  have e : r.isP (.pointer (some r.fld)) (a_.tmps.getD 28 undef) W_ := hT 28 (by kernel_rfl)
  exact ⟨_, x_load e.1 (.inr rfl) ((hC.1.cell (p := r.fld) (by show (r.A.add (r.i * 2)).block < _; rw [block_of_add]; exact h.hA)).trans h.hc) (by kernel_rfl), rfl, e.2⟩
set_option maxRecDepth 100000 in
set_option maxHeartbeats 1000000 in
theorem ob10 : Ob Try.prog OPS r.C (tab r.TL a) no r.E 10 (OPS.getD 10 default) := by
  refine ob_any (Asrt.yes_plain (by kernel_rfl)) (fun a_ W_ hC hT => ?_)
  have e : r.isP (.int .u64 (r.N : Int)) (a_.tmps.getD 29 undef) W_ := hT 29 (by kernel_rfl)
  obtain ⟨W', h1, h2, h3⟩ := x_make (W := W_) (o := OPS.getD 10 default) e.1 h.hN (by kernel_rfl)
  refine ⟨_, W', h1, fun d hd => ?_, hC.grown h3, tr r 10 (by decide) _, KK r a 10 _ _ h3⟩
  obtain rfl : 30 = d := Option.some.inj ((show some 30 = (OPS.getD 10 default).dst by kernel_rfl).trans hd)
  obtain ⟨u, hu⟩ := hC.2.2
  exact ⟨_, rfl, Ps.grown e.2 h3, hC.2.1, fun e => by have := hu.lt; omega, fun p hp e' => by have := ((e.2).row p hp).2.2.lt; omega, h2⟩
set_option maxRecDepth 100000 in
set_option maxHeartbeats 1000000 in
theorem ob11 : Ob Try.prog OPS r.C (tab r.TL a) no r.E 11 (OPS.getD 11 default) := by
  refine ob_any (Asrt.yes_plain (by kernel_rfl)) (fun a_ W_ hC hT => ?_)
  obtain ⟨b, e, hn⟩ : ∃ b, a_.tmps.getD 30 undef = sl (b, r.N) ∧ Nw W_ r.B r.mm r.v r.ps b r.N := hT 30 (by kernel_rfl)
  have h1 := x_build (W := W_) (o := OPS.getD 11 default) e (by kernel_rfl)
  have h3 := World.grownBy_alloc W_ (.cells #[sl (b, r.N)] 24) none
  refine ⟨_, _, h1, fun d hd => ?_, hC.grown h3, tr r 11 (by decide) _, KK r a 11 _ _ h3⟩
  obtain rfl : 31 = d := Option.some.inj ((show some 31 = (OPS.getD 11 default).dst by kernel_rfl).trans hd)
  exact ⟨_, b, rfl, by rw [World.size_alloc]; omega, (World.rowIs_alloc W_ #[sl (b, r.N)] 24 (fun _ => sl (b, r.N)) (fun i hi => by match i, hi with | 0, _ => rfl)).cell (i := 0) (by show 0 < 1; decide), hn.grown h3⟩
set_option maxRecDepth 100000 in
set_option maxHeartbeats 1000000 in
theorem ob12 : Ob Try.prog OPS r.C (tab r.TL a) no r.E 12 (OPS.getD 12 default) := by
  refine ob_any (Asrt.yes_plain (by kernel_rfl)) (fun a_ W_ hC hT => ?_)
  obtain ⟨g, b, e, hg, hc, hn⟩ : ∃ g b, a_.tmps.getD 31 undef = .slice (some ⟨g, 0, none⟩) 1 1 ∧ g < W_.heap.size ∧ W_.cell? ⟨g, 0, none⟩ = some (sl (b, r.N)) ∧ Nw W_ r.B r.mm r.v r.ps b r.N := hT 31 (by kernel_rfl)
  have e2 : a_.tmps.getD 24 undef = r.v := hT 24 (by kernel_rfl)
  obtain ⟨v', W', h1, h2, h3, h4⟩ := x_append (W := W_) (o := OPS.getD 12 default) e2 e hn.pp.own hc rfl h.hl hC.2.1 (by kernel_rfl)
  obtain ⟨u, hu⟩ := hC.2.2
  have hob : ∀ k, r.v.ownBlock = some k → r.B ≤ k := fun k e => (hn.pp.own.lt k e).1
  have hM : ∀ c v, r.isM c v W_ → r.isM c v W' := fun c v h => ⟨h.1, MM.grown h.2 h3 hn.pp.om⟩
  refine ⟨v', W', h1, fun d hd => ?_, ⟨hC.1.grown h3 hC.2.1 hob, Nat.le_trans hC.2.1 h3.size, u, hu.grown h3 hn.pp.om⟩, tr r 12 (by decide) _, keeps_tab ?_ ?_⟩
  · obtain rfl : 32 = d := Option.some.inj ((show some 32 = (OPS.getD 12 default).dst by kernel_rfl).trans hd)
    exact ⟨b, hn.append hu.lt h2 h3 h4⟩
  · unfold Rd.TL
    simp only [List.mem_cons, List.not_mem_nil, or_false, forall_eq_or_imp, forall_eq]
    exact ⟨.inl (by kernel_rfl), .inr (hM _), .inr (stay_is _), .inr (stay_is _), .inr (hM _), .inr (hM _), .inr (hM _), .inr (stay_is _), .inl (by kernel_rfl), .inr (stay_is _), .inl (by kernel_rfl), .inl (by kernel_rfl), .inl (by kernel_rfl), .inl (by kernel_rfl), .inl (by kernel_rfl), .inl (by kernel_rfl), .inr (stay_is _), .inr (stay_is _)⟩
  · intro k hk hb _ e
    subst e
    rw [m15] at hb
    cases hb
set_option maxRecDepth 100000 in
set_option maxHeartbeats 1000000 in
theorem ob13 : Ob Try.prog OPS r.C (tab r.TL a) no r.E 13 (OPS.getD 13 default) := by
  refine ob_val (d0 := 33) (Asrt.yes_plain (by kernel_rfl)) (by kernel_rfl) (tr r 13 (by decide)) (fun a_ W_ hC hT => ?_)
  have e : a_.tmps.getD 20 undef = .pointer (some ⟨r.mm, 0, none⟩) := hT 20 (by kernel_rfl)
  exact ⟨_, x_nil e (by kernel_rfl), rfl⟩
set_option maxRecDepth 100000 in
set_option maxHeartbeats 1000000 in
theorem ob14 : Ob Try.prog OPS r.C (tab r.TL a) no r.E 14 (OPS.getD 14 default) := by
  refine ob_val (d0 := 34) (Asrt.yes_plain (by kernel_rfl)) (by kernel_rfl) (tr r 14 (by decide)) (fun a_ W_ hC hT => ?_)
  have e : a_.tmps.getD 33 undef = .pointer (some ⟨r.mm, 0, none⟩) := hT 33 (by kernel_rfl)
  exact ⟨_, x_field e (by kernel_rfl), rfl⟩
set_option maxRecDepth 100000 in
set_option maxHeartbeats 1000000 in
theorem ob15 : Ob Try.prog OPS r.C (tab r.TL a) no r.E 15 (OPS.getD 15 default) := by
  refine ob_skip (Asrt.yes_plain (by kernel_rfl)) (by kernel_rfl) (fun a_ W_ hC hT => ?_)
  have e : a_.tmps.getD 34 undef = .pointer (some ⟨r.mm, 1, none⟩) := hT 34 (by kernel_rfl)
  obtain ⟨b, hp⟩ : ∃ b, Ps W_ r.B r.mm (a_.tmps.getD 32 undef) (r.ps ++ [(b, r.N)]) := hT 32 (by kernel_rfl)
  obtain ⟨A', c', he⟩ := own_slice hp.own
  obtain ⟨u, hu⟩ := hC.2.2
  rw [he] at hp
  refine ⟨_, x_store e he hu (by kernel_rfl), ⟨hC.1.setCell h.hB _, by simpa [World.setCell] using hC.2.1, _, hu.set _⟩, fun _ => ⟨_, b, hu.set _, hp.set _⟩, keeps_tab ?_ ?_⟩
  · unfold Rd.TL
    simp only [List.mem_cons, List.not_mem_nil, or_false, forall_eq_or_imp, forall_eq]
    exact ⟨.inl (by kernel_rfl), .inl (by kernel_rfl), .inr (stay_is _), .inr (stay_is _), .inl (by kernel_rfl), .inl (by kernel_rfl), .inl (by kernel_rfl), .inr (stay_is _), .inl (by kernel_rfl), .inr (stay_is _), .inl (by kernel_rfl), .inl (by kernel_rfl), .inl (by kernel_rfl), .inl (by kernel_rfl), .inl (by kernel_rfl), .inl (by kernel_rfl), .inr (stay_is _), .inr (stay_is _)⟩
  · intro k hk _ _ e
    exact absurd e hk
set_option maxRecDepth 100000 in
theorem obs : AllAt Try.prog OPS r.C (tab r.TL a) no r.E [0, 1, 2, 3, 4, 5, 6, 7, 8, 9, 10, 11, 12, 13, 14, 15] :=
  ⟨ob0 r h a, ob1 r h a, ob2 r h a, ob3 r h a, ob4 r h a, ob5 r h a, ob6 r h a, ob7 r h a, ob8 r h a, ob9 r h a, ob10 r h a, ob11 r h a, ob12 r h a, ob13 r h a, ob14 r h a, ob15 r h a, trivial⟩
end
theorem Ps.drew {W : World} {B mm : Nat} {v : Value} {ps : List (Nat × Nat)} (h : Ps W B mm v ps) : Ps W.drew B mm v ps := ⟨h.own, h.om, h.row, h.nd⟩
set_option maxRecDepth 100000 in
theorem region7 {Q : Exit → Act → World → Prop} {a : Act} {w : World} (r : Rd) (h : r.Ok) (hC : r.C w) (h0 : a.tmps.getD 0 undef = .slice (some r.A) r.k r.c) (h4 : a.tmps.getD 4 undef = .pointer (some ⟨r.mm, 0, none⟩)) (h5 : a.tmps.getD 5 undef = .int .i64 (r.i : Int))
    (hP : r.P w) (hM : r.M w) (hs : a.tmps.size = 36)
    (hQ : ∀ a' w', r.C w' → a'.tmps.size = a.tmps.size → a'.defers = a.defers → (∀ d, (OPS.toList.any fun o => o.dst == some d) = false → a'.tmps.getD d undef = a.tmps.getD d undef) →
      (∃ x b, MM w' r.mm r.L x ∧ Ps w' r.B r.mm x (r.ps ++ [(b, r.N)])) → Q .normal a' w') : (Code.region 7 OPS true).wp Try.prog Q a w := by
  refine wp_region_assert (by kernel_rfl) (by kernel_rfl) r.C r.TL no r.E ⟨hC.1.drew, hC.2.1, hC.2.2⟩ ?_ (by rw [hs]; kernel_rfl) (obs r h a) ?_
  · intro d p hf hn
    have hm := find_mem hf
    unfold Rd.TL at hm
    simp only [List.mem_cons, Prod.mk.injEq, List.not_mem_nil, or_false] at hm
    rcases hm with ⟨rfl, rfl⟩ | ⟨rfl, rfl⟩ | ⟨rfl, rfl⟩ | ⟨rfl, rfl⟩ | ⟨rfl, rfl⟩ | ⟨rfl, rfl⟩ | ⟨rfl, rfl⟩ | ⟨rfl, rfl⟩ | ⟨rfl, rfl⟩ | ⟨rfl, rfl⟩ | ⟨rfl, rfl⟩ | ⟨rfl, rfl⟩ | ⟨rfl, rfl⟩ | ⟨rfl, rfl⟩ | ⟨rfl, rfl⟩ | ⟨rfl, rfl⟩ | ⟨rfl, rfl⟩ | ⟨rfl, rfl⟩
    · exact ⟨h0, Ps.drew hP⟩
    · exact ⟨h4, World.rowIs.drew hM⟩
    · exact h5
    · rw [show (OPS.toList.any fun o => o.dst == some 20) = true from by kernel_rfl] at hn; cases hn
    · rw [show (OPS.toList.any fun o => o.dst == some 21) = true from by kernel_rfl] at hn; cases hn
    · rw [show (OPS.toList.any fun o => o.dst == some 22) = true from by kernel_rfl] at hn; cases hn
    · rw [show (OPS.toList.any fun o => o.dst == some 23) = true from by kernel_rfl] at hn; cases hn
    · rw [show (OPS.toList.any fun o => o.dst == some 24) = true from by kernel_rfl] at hn; cases hn
    · rw [show (OPS.toList.any fun o => o.dst == some 25) = true from by kernel_rfl] at hn; cases hn
    · rw [show (OPS.toList.any fun o => o.dst == some 26) = true from by kernel_rfl] at hn; cases hn
    · rw [show (OPS.toList.any fun o => o.dst == some 27) = true from by kernel_rfl] at hn; cases hn
    · rw [show (OPS.toList.any fun o => o.dst == some 28) = true from by kernel_rfl] at hn; cases hn
    · rw [show (OPS.toList.any fun o => o.dst == some 29) = true from by kernel_rfl] at hn; cases hn
    · rw [show (OPS.toList.any fun o => o.dst == some 30) = true from by kernel_rfl] at hn; cases hn
    · rw [show (OPS.toList.any fun o => o.dst == some 31) = true from by kernel_rfl] at hn; cases hn
    · rw [show (OPS.toList.any fun o => o.dst == some 32) = true from by kernel_rfl] at hn; cases hn
    · rw [show (OPS.toList.any fun o => o.dst == some 33) = true from by kernel_rfl] at hn; cases hn
    · rw [show (OPS.toList.any fun o => o.dst == some 34) = true from by kernel_rfl] at hn; cases hn
  · intro a' w' k1 k2 k3 k4 k5 k6
    exact hQ a' w' k1 k2 k3 k6 (k5 15 (by rw [show OPS.size = 16 from by kernel_rfl]; decide) rfl)
end Go.Proofs.Ytkejcdephnkkgaa.GmRefN

/- append of a slice that may be nil to one of the call's own. -/
namespace Go.Proofs.Ytkejcdephnkkgaa.Rw
open Go.RowKit
set_option linter.unusedVariables false
set_option linter.unusedSimpArgs false

theorem wpList_append_opt {P : Program} {w : World} {ops : Array Oper} {rest : List Oper} {o : Oper} {a : Act} {Q : Exit → Act → World → Prop} (hgd : o.guard = none) (s x : Operand) (t : TypeId)
    (ho : o.op = .call { callee := .builtin .append, args := #[s, x], argTypes := #[t, t] })
    (base : Nat) (e : TypeId) (i : TypeInfo) (z : Value) (size bytes : Nat) (ht : P.underlying t = some (.slice e)) (hi : P.info? e = some i) (hz : i.zero = some z)
    (hsize : i.size = size) (hby : i.bytes = bytes) (hzs : z.cells.size = size) (hsz : 0 < size)
    (v : Value) (n : Nat) (xs : List Value) (hs : a.eval s = v) (hown : w.ownsRow base e size v n xs)
    (A : Option Addr) (m c : Nat) (news : List Value) (hx : a.eval x = .slice A m c) (hA : A = none → m = 0 ∧ c = 0) (hl : news.length = m * size) (hnews : ∀ ad, A = some ad → ∀ j u, news[j]? = some u → w.cell? (ad.add j) = some u) (h1 : ∀ u ∈ news, u.oneCell' = true)
    (h63 : n + m ≤ maxLen) (hbytes : (n + m) * bytes ≤ 140737488355328) (hbase : base ≤ w.heap.size)
    (h : ∀ v' w', w'.ownsRow base e size v' (n + m) (xs ++ news) → w.grownBy w' v.ownBlock → wpList P ops Q rest (a.put o.dst v') w') : wpList P ops Q (o :: rest) a w := by
  cases A with
  | some ad => exact wpList_append_own _ hgd s x t ho base e i z size bytes ht hi hz hsize hby hzs hsz v n xs hs hown ad m c news hx hl (hnews ad rfl) h1 h63 hbytes hbase (fun v' w' h2 h3 _ => h v' w' h2 h3)
  | none =>
    obtain ⟨rfl, rfl⟩ := hA rfl
    have hn : news = [] := List.eq_nil_of_length_eq_zero (by omega)
    subst hn
    exact wpList_append_own_none hgd s x t ho base e i size ht hi v n xs hs hown hx (h v w (by simpa using hown) ⟨rfl, rfl, rfl, Nat.le_refl _, fun _ _ _ => rfl⟩)

end Go.Proofs.Ytkejcdephnkkgaa.Rw

/- The document's own memory of a valid list. -/
namespace Go.Proofs.Ytkejcdephnkkgaa.GmRefM
open Go.RowKit Rw GmFind GmWord GmCheck GmNew GmCopyR GmRef GmRefN Asr2
set_option linter.unusedVariables false
set_option linter.unusedSimpArgs false

def rowR (k : Nat) (r : Rg) : List Value := (List.range (k * 2)).map r.cell
theorem rowR_one (k : Nat) (r : Rg) : ∀ v ∈ rowR k r, v.oneCell' = true := by
  intro v hv
  obtain ⟨q, _, rfl⟩ := List.mem_map.1 hv
  unfold Rg.cell
  split <;> rfl
theorem rowR_get {k : Nat} {r : Rg} {j : Nat} {v : Value} (h : (rowR k r)[j]? = some v) : j < k * 2 ∧ v = r.cell j := by
  unfold rowR at h
  rw [List.getElem?_map] at h
  obtain ⟨q, h1, h2⟩ := Option.map_eq_some_iff.1 h
  obtain ⟨h3, h4⟩ := List.getElem?_eq_some_iff.1 h1
  rw [List.getElem_range] at h4
  subst h4
  exact ⟨by simpa using h3, h2.symm⟩
theorem open_tmps (t : Array Value) (n : Nat) (h : t.size = n) : t = ((List.range n).map fun i => t.getD i undef).toArray := by
  subst h
  refine Array.ext (by simp) fun i h1 h2 => ?_
  simp [Array.getD_eq_getD_getElem?, h1]
theorem open36 (t : Array Value) (h : t.size = 36) : t = #[t.getD 0 undef, t.getD 1 undef, t.getD 2 undef, t.getD 3 undef, t.getD 4 undef, t.getD 5 undef, t.getD 6 undef, t.getD 7 undef, t.getD 8 undef, t.getD 9 undef, t.getD 10 undef, t.getD 11 undef, t.getD 12 undef, t.getD 13 undef, t.getD 14 undef, t.getD 15 undef, t.getD 16 undef, t.getD 17 undef, t.getD 18 undef, t.getD 19 undef, t.getD 20 undef, t.getD 21 undef, t.getD 22 undef, t.getD 23 undef, t.getD 24 undef, t.getD 25 undef, t.getD 26 undef, t.getD 27 undef, t.getD 28 undef, t.getD 29 undef, t.getD 30 undef, t.getD 31 undef, t.getD 32 undef, t.getD 33 undef, t.getD 34 undef, t.getD 35 undef] := open_tmps t 36 h
/-- How long the parts are. -/
def lens (k : Nat) (r : Rg) : List Nat := (List.range k).map fun i => (r.len i).toNat

set_option maxRecDepth 100000 in
set_option maxHeartbeats 2000000 in
theorem r_new_ok (A : Option Addr) (k c : Nat) (r : Rg) (w : World) (hk0 : 0 < k) (hk : k ≤ 16) (hr : Raw r k) (hs : ∀ i, i < k → Step r i) (h : Lst w w.heap.size A k r) :
    Calls Try.prog 11 #[.slice A k c] w fun e w' => ∃ (m c2 : Nat) (A2 : Option Addr) (x : Value) (ps : List (Nat × Nat)), e = .returned (.tuple #[.pointer (some ⟨m, 0, none⟩), .int .i64 0]) ∧ MM w' m (.slice A2 k c2) x ∧ Ps w' m m x ps ∧
      ps.map (·.2) = lens k r ∧ w.heap.size ≤ m ∧ w'.ownsRow w.heap.size 75 2 (.slice A2 k c2) k (rowR k r) ∧ (∀ b, (Value.slice A2 k c2).ownBlock = some b → b < m) ∧ Below w.heap.size w w' := by
  have hb0 : Below w.heap.size w w := Below.refl _ _
  obtain ⟨ad, rfl, had, hcells⟩ := h hk0
  obtain ⟨i0, hi, hz0, hz1, hz2⟩ := rginfo
  have H0 := Lib.hid hi
  have H1 := Lib.hid hz0
  have H2 := Lib.hid hz1
  have H3 := Lib.hid hz2
  have HR := Lib.hid hr
  have HS := Lib.hid hs
  have HL := Lib.hid h
  have HD := Lib.hid had
  have HC := Lib.hid (r_check_any (some ad) k c r 0 w hk hr (fun _ => rfl) (fun h => absurd hs h) h)
  have HN := Lib.hid (show (rowR k r).length = k * 2 from by simp [rowR])
  clear hr hs h hi hz0 hz1 hz2 had hcells
  go_enter Try.func11, Try.ntmps11
  go_wp2_with fail
  refine (HC.out).mono ?_
  rintro eE W1 ⟨rfl, hg1⟩
  have hs1 := hg1.size
  have hb1 : Below w.heap.size w W1 := hg1
  have HO := Lib.hid (World.ownsRow_made (base := w.heap.size) (e := 75) (size := 2) W1 #[] 0 hs1 (by unfold maxLen; omega) rfl)
  have HK := Lib.hid (show ∀ j v, (rowR k r)[j]? = some v → (W1.alloc (.cells #[] 75)).cell? (ad.add j) = some v from fun j v hj => by
    obtain ⟨hj1, rfl⟩ := rowR_get hj
    obtain ⟨ad', e, h1, h2⟩ := HL.out hk0
    cases e
    rw [World.cell?_alloc_lt _ _ _ (by rw [block_of_add]; omega), hb1.cell (by rw [block_of_add]; exact h1)]
    exact h2 j hj1)
  clear HC hg1
  go_wp2_with (at_builtin; refine wpList_append_own _ rfl _ _ 22 rfl w.heap.size 75 i0 (.agg #[.int .u64 0, .int .u64 0]) 2 16 Try.underlying22 H0.out H1.out H2.out H3.out rfl (by decide) (.slice (some ⟨W1.heap.size, 0, none⟩) 0 0) 0 [] rfl HO.out ad k c (rowR k r) rfl HN.out HK.out (rowR_one k r) (by unfold maxLen; omega) (by omega) (by rw [World.size_alloc]; omega) ?_)
  intro v' W2 hown' hg' _
  have hown2 : W2.ownsRow w.heap.size 75 2 v' k (rowR k r) := by
    simpa using hown'
  obtain ⟨A2, c2, rfl⟩ := own_slice hown2
  have hb2 : Below w.heap.size w W2 := (hb1.alloc hs1 _).grown hg' (by rw [World.size_alloc]; omega) (fun b e => by cases e; exact hs1)
  have hs2 := hb2.size
  have HO2 := Lib.hid hown2
  have HB2 := Lib.hid hb2
  clear hown' hg' hown2 hb2 hb1
  obtain ⟨m, hm⟩ : ∃ m, W2.heap.size = m := ⟨_, rfl⟩
  have HM := Lib.hid hm
  go_wp2_with fail
  have hmrow : MM (W2.alloc (.cells #[.slice A2 k c2, .slice none 0 0] 82)) m (.slice A2 k c2) (.slice none 0 0) := by
    have := World.rowIs_alloc W2 #[.slice A2 k c2, .slice none 0 0] 82 (fun i => if i = 0 then .slice A2 k c2 else .slice none 0 0) (fun i hi => by
      match i, hi with
      | 0, _ => rfl
      | 1, _ => rfl)
    rwa [hm] at this
  have HMR := Lib.hid hmrow
  clear hmrow
  have hmr0 : W2.grownBy (W2.alloc (.cells #[.slice A2 k c2, .slice none 0 0] 82)) none := World.grownBy_alloc W2 _ none
  have HG := Lib.hid hmr0
  clear hmr0
  go_loopw [5] (fun y wr => ∃ (j : Nat) (x : Value) (ps : List (Nat × Nat)), j ≤ k ∧ y = .int .i64 j ∧ MM wr m (.slice A2 k c2) x ∧ Ps wr m m x ps ∧ ps.map (·.2) = lens j r ∧ m ≤ wr.heap.size ∧ Below m W2 wr) (fun y wr => k - (intOf y).toNat)
  case atStart =>
    refine ⟨0, _, [], by omega, rfl, HMR.out, ⟨⟨rfl, .inl ⟨rfl, rfl⟩⟩, by simp [Value.ownBlock], by simp, by simp⟩, rfl, by simp [HM.out], ?_⟩
    have := (Below.refl W2.heap.size W2).alloc (Nat.le_refl _) (.cells #[.slice A2 k c2, .slice none 0 0] 82)
    rwa [HM.out] at this
  case round =>
    obtain ⟨j, x, ps, hj, rfl, hM, hP, hps, hsz, hb⟩ := hrel
    by_cases hlt : j < k
    · go_wp2_with fail
      obtain ⟨s1, s2, s3, s4⟩ := HS.out j hlt
      have t1 := sum_lo HR.out j hj
      have hlj : ((r.len j).toNat : Int) = r.len j := by omega
      refine Asrt.to_ops (id := 7) (ops := OPS) (by kernel_rfl) ?_
      refine region7 ⟨W2, m, m, k, c, j, (r.len j).toNat, ad, .slice A2 k c2, x, ps⟩ ⟨Nat.le_refl _, by have := HD.out; show ad.block < m; omega, hlt, by show (r.len j).toNat ≤ 1048576; omega, by have := congrArg List.length hps; simp [lens] at this; show ps.length ≤ 1000; omega, ?_⟩ ⟨hb, hsz, _, hM⟩ rfl rfl rfl hP hM rfl ?_
      · obtain ⟨ad', e, h1, h2⟩ := (HL.out.below HB2.out) hk0
        cases e
        have c1 := elj h2 hlt 1 (by decide) (by decide)
        rw [Rg.cell1] at c1
        show W2.cell? _ = some (.int .u64 ((r.len j).toNat : Int))
        rw [hlj]
        exact c1
      rintro ⟨ts, df⟩ w' hC' hsz' hdf hU ⟨x', b, hM', hP'⟩
      obtain rfl : df = [] := hdf
      have hts : ts.size = 36 := hsz'
      have HT := Lib.hid (And.intro hC' (And.intro hM' hP'))
      clear hC' hM' hP' hsz'
      have q0 : ts.getD 0 undef = .slice (some ad) k c := hU 0 (by kernel_rfl)
      have q1 : ts.getD 1 undef = undef := hU 1 (by kernel_rfl)
      have q2 : ts.getD 2 undef = .pointer none := hU 2 (by kernel_rfl)
      have q3 : ts.getD 3 undef = .int .i64 0 := hU 3 (by kernel_rfl)
      have q4 : ts.getD 4 undef = .pointer (some ⟨m, 0, none⟩) := hU 4 (by kernel_rfl)
      have q5 : ts.getD 5 undef = .int .i64 (j : Int) := hU 5 (by kernel_rfl)
      have q6 : ts.getD 6 undef = .slice (some ad) k c := hU 6 (by kernel_rfl)
      have q7 : ts.getD 7 undef = .int .i64 0 := hU 7 (by kernel_rfl)
      have q8 : ts.getD 8 undef = .bool false := hU 8 (by kernel_rfl)
      have q9 : ts.getD 9 undef = .slice (some ⟨W1.heap.size, 0, none⟩) 0 0 := hU 9 (by kernel_rfl)
      have q10 : ts.getD 10 undef = .slice (some ad) k c := hU 10 (by kernel_rfl)
      have q11 : ts.getD 11 undef = .slice A2 k c2 := hU 11 (by kernel_rfl)
      have q12 : ts.getD 12 undef = .agg #[.slice A2 k c2, .slice none 0 0] := hU 12 (by kernel_rfl)
      have q13 : ts.getD 13 undef = .pointer (some ⟨m, 0, none⟩) := hU 13 (by kernel_rfl)
      have q35 : ts.getD 35 undef = undef := hU 35 (by kernel_rfl)
      clear hU
      rw [open36 ts hts, q0, q1, q2, q3, q4, q5, q6, q7, q8, q9, q10, q11, q12, q13, q35]
      clear q0 q1 q2 q3 q4 q5 q6 q7 q8 q9 q10 q11 q12 q13 q35
      generalize ts.getD 14 undef = z14
      generalize ts.getD 15 undef = z15
      generalize ts.getD 16 undef = z16
      generalize ts.getD 17 undef = z17
      generalize ts.getD 18 undef = z18
      generalize ts.getD 19 undef = z19
      generalize ts.getD 20 undef = z20
      generalize ts.getD 21 undef = z21
      generalize ts.getD 22 undef = z22
      generalize ts.getD 23 undef = z23
      generalize ts.getD 24 undef = z24
      generalize ts.getD 25 undef = z25
      generalize ts.getD 26 undef = z26
      generalize ts.getD 27 undef = z27
      generalize ts.getD 28 undef = z28
      generalize ts.getD 29 undef = z29
      generalize ts.getD 30 undef = z30
      generalize ts.getD 31 undef = z31
      generalize ts.getD 32 undef = z32
      generalize ts.getD 33 undef = z33
      generalize ts.getD 34 undef = z34
      go_wp2_with fail
      go_roundw
      case rel => exact ⟨j + 1, x', ps ++ [(b, (r.len j).toNat)], by omega, by go_num, HT.out.2.1, HT.out.2.2, by rw [List.map_append, hps]; simp [lens, List.range_succ], HT.out.1.2.1, HT.out.1.1⟩
      case measure => simp [intOf]; omega
    · obtain rfl : j = k := by omega
      go_wp2_with fail
      go_returns
      have hbw : Below W2.heap.size W2 wr := by rw [HM.out]; exact hb
      exact ⟨m, c2, A2, x, ps, rfl, hM, hP, hps, by omega, HO2.out.kept (row := none) (only_of_below hbw none) (by cases (Value.slice A2 j c2).ownBlock <;> simp), fun b e => by have := (HO2.out.lt b e).2; omega, HB2.out.trans (hbw.mono hs2)⟩

set_option maxRecDepth 100000 in
set_option maxHeartbeats 2000000 in
theorem r_new_none (A : Option Addr) (c : Nat) (r : Rg) (w : World) (hA : A = none → c = 0) :
    Calls Try.prog 11 #[.slice A 0 c] w fun e w' => ∃ (m c2 : Nat) (A2 : Option Addr) (x : Value) (ps : List (Nat × Nat)), e = .returned (.tuple #[.pointer (some ⟨m, 0, none⟩), .int .i64 0]) ∧ MM w' m (.slice A2 0 c2) x ∧ Ps w' m m x ps ∧
      ps.map (·.2) = lens 0 r ∧ w.heap.size ≤ m ∧ w'.ownsRow w.heap.size 75 2 (.slice A2 0 c2) 0 (rowR 0 r) ∧ (∀ b, (Value.slice A2 0 c2).ownBlock = some b → b < m) ∧ Below w.heap.size w w' := by
  have hb0 : Below w.heap.size w w := Below.refl _ _
  obtain ⟨i0, hi, hz0, hz1, hz2⟩ := rginfo
  have H0 := Lib.hid hi
  have H1 := Lib.hid hz0
  have H2 := Lib.hid hz1
  have H3 := Lib.hid hz2
  have HA := Lib.hid hA
  have HC := Lib.hid (r_check_any A 0 c r 0 w (by omega) (fun i hi => absurd hi (by omega)) (fun _ => rfl) (fun h => absurd (fun i hi => absurd hi (by omega)) h) (fun h => absurd h (by omega)))
  clear hi hz0 hz1 hz2 hA
  go_enter Try.func11, Try.ntmps11
  go_wp2_with fail
  refine (HC.out).mono ?_
  rintro eE W1 ⟨rfl, hg1⟩
  have hs1 := hg1.size
  have hb1 : Below w.heap.size w W1 := hg1
  have HO := Lib.hid (World.ownsRow_made (base := w.heap.size) (e := 75) (size := 2) W1 #[] 0 hs1 (by unfold maxLen; omega) rfl)
  clear HC hg1
  go_wp2_with (at_builtin; refine wpList_append_opt rfl _ _ 22 rfl w.heap.size 75 i0 (.agg #[.int .u64 0, .int .u64 0]) 2 16 Try.underlying22 H0.out H1.out H2.out H3.out rfl (by decide) (.slice (some ⟨W1.heap.size, 0, none⟩) 0 0) 0 [] rfl HO.out A 0 c [] rfl (fun h => ⟨rfl, HA.out h⟩) rfl (fun ad _ j u hj => by simp at hj) (by simp) (by unfold maxLen; omega) (by omega) (by rw [World.size_alloc]; omega) ?_)
  intro v' W2 hown' hg'
  have hown2 : W2.ownsRow w.heap.size 75 2 v' 0 (rowR 0 r) := by
    have e : rowR 0 r = [] := rfl
    rw [e]
    simpa using hown'
  obtain ⟨A2, c2, rfl⟩ := own_slice hown2
  have hb2 : Below w.heap.size w W2 := (hb1.alloc hs1 _).grown hg' (by rw [World.size_alloc]; omega) (fun b e => by cases e; exact hs1)
  have hs2 := hb2.size
  have HO2 := Lib.hid hown2
  have HB2 := Lib.hid hb2
  clear hown' hg' hown2 hb2 hb1
  obtain ⟨m, hm⟩ : ∃ m, W2.heap.size = m := ⟨_, rfl⟩
  have HM := Lib.hid hm
  go_wp2_with fail
  have hmrow : MM (W2.alloc (.cells #[.slice A2 0 c2, .slice none 0 0] 82)) m (.slice A2 0 c2) (.slice none 0 0) := by
    have := World.rowIs_alloc W2 #[.slice A2 0 c2, .slice none 0 0] 82 (fun i => if i = 0 then .slice A2 0 c2 else .slice none 0 0) (fun i hi => by
      match i, hi with
      | 0, _ => rfl
      | 1, _ => rfl)
    rwa [hm] at this
  have HMR := Lib.hid hmrow
  have HG := Lib.hid (World.grownBy_alloc W2 (.cells #[.slice A2 0 c2, .slice none 0 0] 82) none)
  have HW := Lib.hid (HB2.out.alloc hs2 (.cells #[.slice A2 0 c2, .slice none 0 0] 82))
  clear hmrow
  refine wp_loop_rounds 1 ?_
  rw [rounds_succ]
  go_wp2_with fail
  go_returns
  exact ⟨m, c2, A2, _, [], rfl, HMR.out, ⟨⟨rfl, .inl ⟨rfl, rfl⟩⟩, by simp [Value.ownBlock], by simp, by simp⟩, rfl, by omega, HO2.out.kept HG.out (by cases (Value.slice A2 0 c2).ownBlock <;> simp), fun b e => by have := (HO2.out.lt b e).2; omega, HW.out⟩
end Go.Proofs.Ytkejcdephnkkgaa.GmRefM

/- slices.Concat of rows of bytes. -/
namespace Go.Proofs.Ytkejcdephnkkgaa.SgConcat
open Go.RowKit Rw GmFind GmWord GmLoad GmCopy GmNew
set_option linter.unusedVariables false
set_option linter.unusedSimpArgs false

set_option maxRecDepth 100000 in
theorem grow_zero (w : World) : Calls Try.prog 44 #[.slice none 0 0, .int .i64 0] w fun e w' => e = .returned (.slice none 0 0) ∧ w = w' := by
  go_enter Try.func44, Try.ntmps44
  go_wp2
  go_ret
  exact ⟨rfl, rfl⟩

/-- An empty row of the call's own. -/
def EmptyP (w : World) (e : Ending) (w' : World) : Prop := ∃ (A : Option Addr) (C : Nat), e = .returned (.slice A 0 C) ∧ w'.ownsRow w.heap.size 5 1 (.slice A 0 C) 0 [] ∧ Below w.heap.size w w'

set_option maxRecDepth 100000 in
set_option maxHeartbeats 2000000 in
theorem grow_any (n : Nat) (h2 : n ≤ 1000000000) (w : World) : Calls Try.prog 44 #[.slice none 0 0, .int .i64 n] w (EmptyP w) := by
  rcases Nat.eq_zero_or_pos n with rfl | h1
  · refine (grow_zero w).mono ?_
    rintro e W ⟨rfl, rfl⟩
    exact ⟨none, 0, rfl, ⟨rfl, .inl ⟨rfl, rfl⟩⟩, Below.refl _ _⟩
  obtain ⟨i0, hi0, hz0, hs0, hby⟩ := GmNew.u8info
  have hfit : Builtin.nextslicecap (0 + n) 0 * i0.bytes ≤ 281474976710656 := growslice_fits (by omega) (by rw [hby]; omega)
  have hold : (Builtin.firstCells i0.size 0 (.slice none 0 0)).run Try.prog w.drew = .ok #[] w.drew := run_firstCells_none w.drew i0.size 0 0 0
  have hrz := fun ty => Lib.run_append_grow_zeros (P := Try.prog) w 24 3 ty 5 i0 (.int .u8 0) .i64 .i64 Try.underlying24 Try.underlying3 hi0 hz0 none 0 0 [] hold n (by omega) (by omega) (by omega) (by omega) (by rw [hby]; omega) hfit
  obtain ⟨C, hC⟩ : ∃ C, grownCap w (0 + n) 0 5 = C := ⟨_, rfl⟩
  have hC1 : n ≤ C := by have := grownCap_ge w (0 + n) 0 5; omega
  have hC2 : C ≤ maxLen := by have := grownCap_le_maxLen w (0 + n) 0 5 (by unfold maxLen; omega); omega
  have hC3 : (C : Int) ≤ 9223372036854775807 := by unfold maxLen at hC2; omega
  rw [hC] at hrz
  obtain ⟨Z, hZ⟩ : ∃ Z, (([] : List Value).toArray ++ Builtin.zeroCells (Value.int .u8 0).cells n ++ Builtin.zeroCells (Value.int .u8 0).cells (C - (0 + n))) = Z := ⟨_, rfl⟩
  rw [hZ] at hrz
  have hZs : Z.size = C := by rw [← hZ]; simp [zeros_size]; omega
  have HR := Lib.hid hrz
  have HZ := Lib.hid hZs
  have HM := Lib.hid hC2
  clear hrz hZ hZs hC hold hfit hC2
  have n0 : decide ((n : Int) < 0) = false := decide_eq_false (by omega)
  have n1 : decide ((0 : Int) < (n : Int)) = true := decide_eq_true (by omega)
  go_enter Try.func44, Try.ntmps44
  go_wp2_with (at_builtin; refine Lib.wpList_append_run _ rfl _ _ _ _ rfl _ _ rfl rfl _ _ (HR.out _) ?_)
  all_goals
    go_ret
    refine ⟨_, C, rfl, ⟨rfl, .inr ⟨w.heap.size, C, Z, rfl, Nat.le_refl _, ?_, Nat.zero_le _, HM.out, by rw [HZ.out, Nat.mul_one], by simp⟩⟩, by go_grown⟩
    show (w.heap.push (.cells Z 5))[w.heap.size]? = _
    simp

/-- Rows of bytes, and the list of slices that point to them. -/
def PartsAt (w : World) (vs : List Value) (bss : List (List Int)) : Prop := vs.length = bss.length ∧ ∀ (i : Nat) (ns : List Int), bss[i]? = some ns → ∃ b : Nat, vs[i]? = some (Value.slice (some ⟨b, 0, none⟩) ns.length ns.length) ∧ w.rowIs b 5 ns.length (fun j => .int .u8 (ns.getD j 0))
theorem PartsAt.below {w w' : World} {vs : List Value} {bss : List (List Int)} (h : PartsAt w vs bss) (hb : Below w.heap.size w w') : PartsAt w' vs bss := ⟨h.1, fun i ns hi => by
  obtain ⟨b, h1, h2⟩ := h.2 i ns hi
  exact ⟨b, h1, h2.of_block (hb.block b h2.lt)⟩⟩
theorem PartsAt.get {w : World} {vs : List Value} {bss : List (List Int)} (h : PartsAt w vs bss) {i : Nat} (hi : i < vs.length) : ∃ b ns, bss[i]? = some ns ∧ vs.getD i undef = .slice (some ⟨b, 0, none⟩) ns.length ns.length ∧ w.rowIs b 5 ns.length (fun j => .int .u8 (ns.getD j 0)) := by
  have hi' : i < bss.length := by rw [← h.1]; exact hi
  obtain ⟨b, h1, h2⟩ := h.2 i _ (List.getElem?_eq_getElem hi')
  exact ⟨b, _, List.getElem?_eq_getElem hi', by rw [List.getD_eq_getElem?_getD, h1]; rfl, h2⟩
theorem flat_succ {bss : List (List Int)} {i : Nat} {ns : List Int} (h : bss[i]? = some ns) : (bss.take (i + 1)).flatten = (bss.take i).flatten ++ ns := by
  rw [List.take_add_one, h]
  simp
theorem flat_len {bss : List (List Int)} (i : Nat) : (bss.take i).flatten.length ≤ bss.flatten.length := by
  have h : (bss.take i).flatten ++ (bss.drop i).flatten = bss.flatten := by rw [← List.flatten_append, List.take_append_drop]
  rw [← h, List.length_append]
  omega
def u8s (ns : List Int) : List Value := ns.map (Value.int .u8)
theorem u8s_append (a b : List Int) : u8s (a ++ b) = u8s a ++ u8s b := List.map_append
theorem u8s_length (a : List Int) : (u8s a).length = a.length := by simp [u8s]
theorem u8s_one (a : List Int) : ∀ v ∈ u8s a, v.oneCell' = true := by
  intro v hv
  obtain ⟨n, _, rfl⟩ := List.mem_map.1 hv
  rfl

/-- Bytes of the call's own. -/
def BytesP (ns : List Int) (w : World) (e : Ending) (w' : World) : Prop := ∃ (A : Option Addr) (c : Nat), e = .returned (.slice A ns.length c) ∧ w'.ownsRow w.heap.size 5 1 (.slice A ns.length c) ns.length (u8s ns) ∧ Below w.heap.size w w'

set_option maxRecDepth 100000 in
set_option maxHeartbeats 4000000 in
theorem concat_any (AP : Option Addr) (c : Nat) (vs : List Value) (bss : List (List Int)) (w : World) (hP : PartsAt w vs bss) (hrow : IsRow w w.heap.size 1 AP vs.length (fun i => vs.getD i undef)) (hlen : vs.length ≤ 1000000) (hsum : bss.flatten.length ≤ 1000000000) :
    Calls Try.prog 70 #[.slice AP vs.length c] w (BytesP bss.flatten w) := by
  have hb0 : Below w.heap.size w w := Below.refl _ _
  obtain ⟨i0, hi, hz0, hz1, hz2⟩ := GmNew.u8info
  have HI0 := Lib.hid hi
  have HI1 := Lib.hid hz0
  have HI2 := Lib.hid hz1
  have HI3 := Lib.hid hz2
  have HP := Lib.hid hP
  have HR := Lib.hid hrow
  obtain ⟨N, hN⟩ : ∃ N, vs.length = N := ⟨_, rfl⟩
  have HN := Lib.hid hN
  have HB := Lib.hid (show bss.length = N from by rw [← hP.1, hN])
  obtain ⟨S, hS⟩ : ∃ S, bss.flatten.length = S := ⟨_, rfl⟩
  have HS := Lib.hid hS
  unfold BytesP
  rw [hS] at hsum ⊢
  rw [hN] at hlen ⊢
  clear hi hz0 hz1 hz2 hP hrow hN hS
  go_enter Try.func70, Try.ntmps70
  go_wp2_with fail
  go_loop [3, 11] (fun x y => ∃ i : Nat, i ≤ N ∧ x = .int .i64 ((bss.take i).flatten.length : Nat) ∧ y = .int .i64 i) (fun x y => N - (intOf y).toNat)
  case atStart => exact ⟨0, by omega, by simp, rfl⟩
  case round =>
    obtain ⟨i, hiN, rfl, rfl⟩ := hrel
    by_cases hlt : i < N
    · obtain ⟨b, ns, hns, hv, hrb⟩ := HP.out.get (i := i) (by rw [HN.out]; exact hlt)
      obtain ⟨ad, rfl, had, hc⟩ := HR.out (by rw [HN.out]; omega)
      have c0 : w.cell? (ad.add i) = some (vs.getD i undef) := hc i (by rw [HN.out]; omega)
      rw [hv] at c0
      have hfl := flat_succ hns
      have hle := flat_len (bss := bss) (i + 1)
      have h0 := flat_len (bss := bss) i
      rw [HS.out] at hle h0
      obtain ⟨F, hF⟩ : ∃ F, (bss.take i).flatten.length = F := ⟨_, rfl⟩
      obtain ⟨K, hK⟩ : ∃ K, ns.length = K := ⟨_, rfl⟩
      rw [hfl, List.length_append, hF, hK] at hle
      have HF := Lib.hid (show (bss.take (i + 1)).flatten.length = F + K from by rw [hfl, List.length_append, hF, hK])
      rw [hF] at h0 ⊢
      rw [hK] at c0
      have g1 : decide ((F : Int) + K < 0) = false := decide_eq_false (by omega)
      clear hv hrb hc hfl hF hK hns
      go_wp2_with fail
      go_round
      case rel => exact ⟨i + 1, by omega, by rw [HF.out]; go_num, by go_num⟩
      case measure => simp [intOf]; omega
    · obtain rfl : i = N := by omega
      have e1 : (bss.take i).flatten.length = S := by rw [List.take_of_length_le (by rw [HB.out]; omega), HS.out]
      rw [e1]
      clear e1
      go_wp2_with fail
      (with_reducible refine (grow_any S hsum _).mono ?_)
      rintro e W1 ⟨A1, C1, rfl, hown1, hg1⟩
      have hs1 := hg1.size
      have hb1 := hg1
      have H1 := Lib.hid hown1
      clear hown1 hg1
      go_wp2_with fail
      go_loopw [6, 27] (fun x y wr => ∃ (q : Nat) (A : Option Addr) (C : Nat), q ≤ i ∧ x = .slice A (bss.take q).flatten.length C ∧ y = .int .i64 q ∧ wr.ownsRow w.heap.size 5 1 (.slice A (bss.take q).flatten.length C) (bss.take q).flatten.length (u8s (bss.take q).flatten) ∧ Below w.heap.size w wr) (fun x y wr => i - (intOf y).toNat)
      case atStart => exact ⟨0, A1, C1, by omega, by simp, rfl, by simpa [u8s] using H1.out, hb1⟩
      case round =>
        obtain ⟨q, A, C, hqN, rfl, rfl, hown, hb⟩ := hrel
        have hsw := hb.size
        by_cases hlt2 : q < i
        · obtain ⟨b, ns, hns, hv, hrb⟩ := HP.out.get (i := q) (by rw [HN.out]; exact hlt2)
          obtain ⟨ad, rfl, had, hc⟩ := HR.out (by rw [HN.out]; omega)
          have c0 : wr.cell? (ad.add q) = some (vs.getD q undef) := (hb.cell (p := ad.add q) (by rw [block_of_add]; exact had)).trans (hc q (by rw [HN.out]; omega))
          rw [hv] at c0
          have hrb2 := hrb.of_block (hb.block b hrb.lt)
          have hfl := flat_succ hns
          have hle := flat_len (bss := bss) (q + 1)
          rw [HS.out, hfl, List.length_append] at hle
          have HF := Lib.hid hfl
          have HNW := Lib.hid (show ∀ j u, (u8s ns)[j]? = some u → wr.cell? ((⟨b, 0, none⟩ : Addr).add j) = some u from by
            intro j u hu
            simp only [u8s, List.getElem?_map, Option.map_eq_some_iff] at hu
            obtain ⟨z, hz, rfl⟩ := hu
            obtain ⟨hj, rfl⟩ := List.getElem?_eq_some_iff.1 hz
            have e : (⟨b, 0, none⟩ : Addr).add j = ⟨b, j, none⟩ := by unfold Addr.add; split <;> simp_all
            rw [e, hrb2.cell hj]
            simp [List.getD_eq_getElem?_getD, hj])
          have HO := Lib.hid hown
          obtain ⟨X, hX⟩ : ∃ X, (bss.take q).flatten = X := ⟨_, rfl⟩
          rw [hX] at HO HF hle ⊢
          obtain ⟨XN, hXN⟩ : ∃ XN, X.length = XN := ⟨_, rfl⟩
          obtain ⟨K, hK⟩ : ∃ K, ns.length = K := ⟨_, rfl⟩
          have HXN := Lib.hid hXN
          have HK := Lib.hid hK
          rw [hXN] at HO hle ⊢
          rw [hK] at c0 hle
          clear hown hv hrb hrb2 hc hfl hns hX hXN hK
          go_wp2_with (at_builtin; refine wpList_append_own _ rfl _ _ 24 rfl w.heap.size 5 i0 (.int .u8 0) 1 1 Try.underlying24 HI0.out HI1.out HI2.out HI3.out rfl (by decide) (.slice A XN C) XN (u8s X) rfl HO.out ⟨b, 0, none⟩ K K (u8s ns) rfl (by rw [u8s_length, HK.out, Nat.mul_one]) HNW.out (u8s_one ns) (by unfold maxLen; omega) (by omega) hsw ?_)
          intro v' W3 hown3 hg3 _
          obtain ⟨A3, C3, rfl⟩ := GmNew.own_slice hown3
          have hb3 : Below w.heap.size w W3 := hb.grown hg3 hsw (fun k e => GmNew.own_block HO.out k e)
          rw [← u8s_append, ← HF.out] at hown3
          have HH := Lib.hid (And.intro hown3 hb3)
          have HL := Lib.hid (show (bss.take (q + 1)).flatten.length = XN + K from by rw [HF.out, List.length_append, HXN.out, HK.out])
          clear hown3 hg3 hb3
          go_wp2_with fail
          go_roundw
          case rel => exact ⟨q + 1, A3, C3, by omega, by rw [HL.out], by go_num, by rw [HL.out]; exact HH.out.1, HH.out.2⟩
          case measure => simp [intOf]; omega
        · obtain rfl : q = i := by omega
          have e2 : bss.take q = bss := List.take_of_length_le (by rw [HB.out]; omega)
          rw [e2] at hown
          rw [HS.out] at hown
          have e3 : (bss.take q).flatten.length = S := by rw [e2, HS.out]
          rw [e3]
          have HO := Lib.hid hown
          clear hown e2 e3
          go_wp2_with fail
          go_ret
          exact ⟨A, C, rfl, HO.out, hb⟩

end Go.Proofs.Ytkejcdephnkkgaa.SgConcat

/- The document's own memory: what it holds; Read. -/
namespace Go.Proofs.Ytkejcdephnkkgaa.GmRefP
open Go.RowKit Rw GmFind GmWord GmCheck GmNew GmCopyR GmRef GmRefN GmRefM SgConcat
set_option linter.unusedVariables false
set_option linter.unusedSimpArgs false

/-- Where a range begins that a region holds. -/
theorem place_at {r : Rg} {k i : Nat} {a n : Int} (hr : r.In k) (hi : i < k) (h : inR r a n i) : place r k a n = some (r.st i + (a - r.at_ i)).toNat := by
  obtain ⟨h1, h2, h3, h4⟩ := h
  have e : r.end_ i = r.at_ i + (r.len i - 1) := rfl
  have hid : idx r a k = i := by
    refine idx_eq r a k i (by omega) (fun j hj => ?_) (fun _ => by rw [e]; omega)
    obtain ⟨p, rfl⟩ : ∃ p, i = p + 1 := ⟨i - 1, by omega⟩
    have g1 := hr.mono' (i := j) (j := p) (by omega) (by omega)
    have g2 := hr.up p (by omega)
    omega
  have ho : okB r k (idx r a k) a n = true := by
    rw [hid]
    unfold okB
    rw [e, decide_eq_true hi, decide_eq_true h2, decide_eq_true h1, decide_eq_true (by omega)]
    rfl
  unfold place
  rw [if_pos ho, hid]

/-- The memory mm: its list, its row x of parts; byte j of part i is g (st i + j). -/
structure RM (W : World) (mm k c : Nat) (A : Option Addr) (r : Rg) (x : Value) (ps : List (Nat × Nat)) (g : Nat → Int) : Prop where
  k1 : k ≤ 1000000
  raw : Raw r k
  rin : r.In k
  len1 : ∀ i, i < k → r.len i ≤ 1048576
  st0 : ∀ i, i < k → 0 ≤ r.st i
  two : MM W mm (.slice A k c) x
  lst : Lst W W.heap.size A k r
  own : ∃ B, W.ownsRow B 24 1 x k (ps.map sl)
  len : ps.map (·.2) = lens k r
  row : ∀ i p, ps[i]? = some p → W.rowIs p.1 5 p.2 (fun j => .int .u8 (g ((r.st i).toNat + j)))
  nd : (ps.map (·.1)).Nodup
  ap : ∀ p ∈ ps, ∀ ad, A = some ad → ad.block ≠ p.1
  up : ∀ i j, i < j → j < k → r.st i + r.len i ≤ r.st j

section
variable {W : World} {mm k c : Nat} {A : Option Addr} {r : Rg} {x : Value} {ps : List (Nat × Nat)} {g : Nat → Int}
theorem RM.find (h : RM W mm k c A r x ps g) {a n : Int} (ha : 0 ≤ a ∧ a ≤ 18446744073709551615) (hn : 0 ≤ n ∧ n ≤ 18446744073709551615) :
    Calls Try.prog 68 #[.pointer (some ⟨mm, 0, none⟩), .int .u64 a, .int .u64 n] W (FindP r k a n W.heap.size W) :=
  r_find_any mm k c A r a n W h.k1 h.raw h.len1 ha hn (h.two.cell (i := 0) (by decide)) h.two.lt h.lst
theorem RM.has (h : RM W mm k c A r x ps g) {a n : Int} (ha : 0 ≤ a ∧ a ≤ 18446744073709551615) (hn : 0 ≤ n ∧ n ≤ 18446744073709551615) :
    Calls Try.prog 48 #[.pointer (some ⟨mm, 0, none⟩), .int .u64 a, .int .u64 n] W (GmWord.Gives W.heap.size W (.bool (place r k a n).isSome)) :=
  r_has_any mm k c A r a n W h.k1 h.raw h.rin h.len1 ha hn (h.two.cell (i := 0) (by decide)) h.two.lt h.lst
/-- Part i: a slice in the row, its bytes. -/
theorem RM.part (h : RM W mm k c A r x ps g) {i : Nat} (hi : i < k) : ∃ G b c3, x = .slice (some ⟨G, 0, none⟩) k c3 ∧ W.cell? ⟨G, i, none⟩ = some (.slice (some ⟨b, 0, none⟩) (r.len i).toNat (r.len i).toNat) ∧
    W.rowIs b 5 (r.len i).toNat (fun j => .int .u8 (g ((r.st i).toNat + j))) := by
  obtain ⟨B, hown⟩ := h.own
  have hl : ps.length = k := by have := congrArg List.length h.len; simpa [lens] using this
  obtain ⟨p, hp⟩ : ∃ p, ps[i]? = some p := ⟨_, List.getElem?_eq_getElem (by omega)⟩
  have h2 : p.2 = (r.len i).toNat := by
    have := congrArg (fun l => l[i]?) h.len
    simp only [List.getElem?_map, hp, lens, Option.map_some] at this
    rw [List.getElem?_range hi] at this
    simpa using this
  obtain ⟨A3, c3, rfl⟩ := own_slice hown
  rcases hown.2 with ⟨_, h0⟩ | ⟨G, cap, cur, he, _⟩
  · omega
  · obtain ⟨rfl, rfl⟩ : A3 = some ⟨G, 0, none⟩ ∧ c3 = cap := by injection he with e1 _ e2; exact ⟨e1, e2⟩
    refine ⟨G, p.1, c3, rfl, ?_, by have := h.row i p hp; rwa [h2] at this⟩
    rw [hown.cellAt i (by omega), List.getElem?_map, hp]
    simp [sl, h2]
end

set_option maxRecDepth 100000 in
set_option maxHeartbeats 2000000 in
theorem r_read_no {mm k c : Nat} {A : Option Addr} {r : Rg} {x : Value} {ps : List (Nat × Nat)} {g : Nat → Int} (a n : Int) (w : World) (h : RM w mm k c A r x ps g) (ha : 0 ≤ a ∧ a ≤ 18446744073709551615) (hn : 0 < n ∧ n ≤ 9223372036854775807) (hp : place r k a n = none) :
    Calls Try.prog 55 #[.pointer (some ⟨mm, 0, none⟩), .int .u64 a, .int .i64 n] w (GmWord.Gives w.heap.size w (.tuple #[.slice none 0 0, .int .i64 5])) := by
  unfold GmWord.Gives
  have HF := Lib.hid (h.find ha (n := n) (by omega))
  have HP := Lib.hid (show ∀ i, i < k → ¬ inR r a n i from fun i hi hin => by have := place_at h.rin hi hin; rw [hp] at this; cases this)
  have f0 : decide (n < (0 : Int)) = false := decide_eq_false (by omega)
  have f1 : decide (n = (0 : Int)) = false := decide_eq_false (by omega)
  have f2 : IntKind.u64.wrap n = n := by rw [IntKind.wrap_u64]; omega
  clear h hp
  go_enter Try.func55, Try.ntmps55
  go_wp2_with fail
  refine HF.out.mono ?_
  rintro e W ⟨hb, ⟨i, hi, hin, _, rfl⟩ | ⟨hno, rfl⟩⟩
  · exact (HP.out i hi hin).elim
  · go_wp2_with fail
    go_returns
    exact ⟨rfl, by go_grown⟩

/-- So many bytes from o on. -/
def bytesAt (g : Nat → Int) (o n : Nat) : List Int := (List.range n).map fun j => g (o + j)
def ReadP (g : Nat → Int) (o n : Nat) (w : World) (e : Ending) (w' : World) : Prop := ∃ (A : Option Addr) (c : Nat), e = .returned (.tuple #[.slice A n c, .int .i64 0]) ∧ w'.ownsRow w.heap.size 5 1 (.slice A n c) n (u8s (bytesAt g o n)) ∧ Below w.heap.size w w'

set_option maxRecDepth 100000 in
set_option maxHeartbeats 2000000 in
theorem r_read_ok {mm k c : Nat} {A : Option Addr} {r : Rg} {x : Value} {ps : List (Nat × Nat)} {g : Nat → Int} (a : Int) (n o : Nat) (w : World) (h : RM w mm k c A r x ps g) (ha : 0 ≤ a ∧ a ≤ 18446744073709551615) (hn : 0 < n ∧ n ≤ 1048576) (hp : place r k a n = some o) :
    Calls Try.prog 55 #[.pointer (some ⟨mm, 0, none⟩), .int .u64 a, .int .i64 (n : Int)] w (ReadP g o n w) := by
  unfold ReadP
  obtain ⟨i0, hi0, hz0, hz1, hz2⟩ := GmNew.u8info
  have H0 := Lib.hid hi0
  have H1 := Lib.hid hz0
  have H2 := Lib.hid hz1
  have H3 := Lib.hid hz2
  have HF := Lib.hid (h.find ha (n := n) (by omega))
  have HY := Lib.hid (show ∀ i, i < k → inR r a n i → o = (r.st i + (a - r.at_ i)).toNat from fun i hi hin => by have := place_at h.rin hi hin; rw [hp] at this; injection this)
  have HX := Lib.hid (show ∃ i, i < k ∧ inR r a n i from (place_inR h.rin).1 (by rw [hp]; rfl))
  have H := Lib.hid h
  have f0 : decide ((n : Int) < (0 : Int)) = false := decide_eq_false (by omega)
  have f1 : decide ((n : Int) = (0 : Int)) = false := decide_eq_false (by omega)
  have f2 : IntKind.u64.wrap (n : Int) = n := by rw [IntKind.wrap_u64]; omega
  clear h hp hi0 hz0 hz1 hz2
  go_enter Try.func55, Try.ntmps55
  go_wp2_with fail
  refine HF.out.mono ?_
  rintro e W ⟨hb, ⟨i, hi, hin, _, rfl⟩ | ⟨hno, rfl⟩⟩
  · obtain ⟨G, b, c3, rfl, hc, hrow⟩ := H.out.part hi
    have s0 := H.out.st0 i hi
    have l1 := H.out.len1 i hi
    obtain ⟨r1, r2, r3, r4⟩ := H.out.raw i hi
    have eo := HY.out i hi hin
    obtain ⟨d1, d2, d3, d4⟩ := hin
    obtain ⟨P, hP⟩ : ∃ P : Nat, a - r.at_ i = P := ⟨(a - r.at_ i).toNat, by omega⟩
    obtain ⟨L, hL⟩ : ∃ L : Nat, (r.len i).toNat = L := ⟨_, rfl⟩
    have hPL : P + n ≤ L := by omega
    have hLL : L ≤ 1048576 := by omega
    rw [hL] at hc hrow
    rw [hP]
    have hsw := hb.size
    have eo2 : o = (r.st i).toNat + P := by omega
    have hGl : G < w.heap.size := by
      obtain ⟨B, hown⟩ := H.out.own
      exact (hown.lt G rfl).2
    have m1 := (World.cell?_alloc_lt W (.cells #[] 5) ⟨mm, 1, none⟩ (by have := H.out.two.lt; show mm < _; omega)).trans ((hb.cell (p := ⟨mm, 1, none⟩) H.out.two.lt).trans (H.out.two.cell (i := 1) (by decide)))
    have mc := (World.cell?_alloc_lt W (.cells #[] 5) ⟨G, i, none⟩ (Nat.lt_of_lt_of_le hGl hsw)).trans ((hb.cell (p := ⟨G, i, none⟩) hGl).trans hc)
    have hr2 : (W.alloc (.cells #[] 5)).rowIs b 5 L (fun j => .int .u8 (g ((r.st i).toNat + j))) := World.rowIs.alloc (hrow.of_block (hb.block b hrow.lt)) _
    have HO := Lib.hid (World.ownsRow_made (base := w.heap.size) (e := 5) (size := 1) W #[] 0 hsw (by unfold maxLen; omega) rfl)
    have HNW := Lib.hid (show ∀ j u, (u8s (bytesAt g o n))[j]? = some u → (W.alloc (.cells #[] 5)).cell? ((⟨b, P, none⟩ : Addr).add j) = some u from fun j u hj => by
      have hj' : j < n ∧ u = .int .u8 (g (o + j)) := by
        unfold u8s bytesAt at hj
        simp only [List.getElem?_map, Option.map_eq_some_iff] at hj
        obtain ⟨z, ⟨q, hq, rfl⟩, rfl⟩ := hj
        obtain ⟨hq1, hq2⟩ := List.getElem?_eq_some_iff.1 hq
        simp at hq1 hq2
        subst hq2
        exact ⟨hq1, rfl⟩
      obtain ⟨hj1, rfl⟩ := hj'
      have e : ((⟨b, P, none⟩ : Addr).add j) = ⟨b, P + j, none⟩ := by unfold Addr.add; split <;> simp_all
      rw [e, hr2.cell (by omega), eo2]
      congr 2
      rw [Nat.add_assoc])
    have HS := Lib.hid (show (u8s (bytesAt g o n)).length = n * 1 from by simp [u8s, bytesAt])
    have hLP : ¬ L = P := by omega
    have x1 : (0 : Int) ≤ (P : Int) ∧ (P : Int) ≤ (P : Int) + (n : Int) ∧ (P : Int) + (n : Int) ≤ (L : Int) := by omega
    have x2 : (i : Int) < (k : Int) := by omega
    have HB := Lib.hid hb
    clear hb hc hrow hr2 eo eo2 d1 d2 d3 d4 r1 r2 r3 r4 s0 l1
    have m2 : (W.alloc (.cells #[] 5)).cell? ⟨mm, 1, none⟩ = some (.slice (some ⟨G, 0, none⟩) k c3) := m1
    clear m1
    have f3 : decide ((i : Int) < (0 : Int)) = false := decide_eq_false (by omega)
    have hpn : P + n - P = n := by omega
    go_wp2_with (at_builtin; refine wpList_append_own _ rfl _ _ 24 rfl w.heap.size 5 i0 (.int .u8 0) 1 1 Try.underlying24 H0.out H1.out H2.out H3.out rfl (by decide) (.slice (some ⟨W.heap.size, 0, none⟩) 0 0) 0 [] rfl HO.out ⟨b, P, none⟩ (P + n - P) (L - P) (u8s (bytesAt g o n)) rfl (by rw [hpn]; exact HS.out) HNW.out (u8s_one _) (by unfold maxLen; omega) (by omega) (by rw [World.size_alloc]; omega) ?_)
    intro v' W2 hown' hg' _
    have hown2 : W2.ownsRow w.heap.size 5 1 v' n (u8s (bytesAt g o n)) := by
      simpa [hpn] using hown'
    obtain ⟨A', c', rfl⟩ := own_slice hown2
    have hb2 : Below w.heap.size w W2 := (HB.out.alloc hsw _).grown hg' (by rw [World.size_alloc]; omega) (fun b e => by cases e; exact hsw)
    have HH := Lib.hid (And.intro hown2 hb2)
    clear hown' hg' hown2 hb2 mc m2
    go_wp2_with fail
    go_returns
    exact ⟨A', c', rfl, HH.out.1, HH.out.2⟩
  · obtain ⟨i, hi, hin⟩ := HX.out
    exact absurd hin (hno i hi)

theorem sum_up {r : Rg} {k i : Nat} (hr : Raw r k) : ∀ {j : Nat}, j ≤ k → i < j → sum r i + r.len i ≤ sum r j
  | 0, _, h => by omega
  | j + 1, hj, h => by
    have e : sum r (j + 1) = sum r j + r.len j := rfl
    rcases Nat.lt_or_ge i j with h1 | h1
    · have := sum_up (j := j) hr (by omega) h1
      have := (hr j (by omega)).2.2.1
      omega
    · obtain rfl : i = j := by omega
      omega
theorem in_steps {r : Rg} {k : Nat} (hr : Raw r k) (hs : ∀ i, i < k → Step r i) : (stR r).In k :=
  ⟨fun i hi => (hr i hi).1, fun i hi => (hs i hi).1, fun i hi => (hs i hi).2.2.1, fun i hi => (hs (i + 1) hi).2.2.2 (by omega)⟩
/-- What New makes. -/
theorem RM.of_new {W : World} {m k c B : Nat} {A : Option Addr} {r : Rg} {x : Value} {ps : List (Nat × Nat)} (hk : k ≤ 16) (hr : Raw r k) (hs : ∀ i, i < k → Step r i)
    (hM : MM W m (.slice A k c) x) (hP : Ps W m m x ps) (hl : ps.map (·.2) = lens k r) (ho : W.ownsRow B 75 2 (.slice A k c) k (rowR k r)) (hb : ∀ b, (Value.slice A k c).ownBlock = some b → b < m) : RM W m k c A (stR r) x ps (fun _ => 0) := by
  have hpl : ps.length = k := by have := congrArg List.length hl; simpa [lens] using this
  refine ⟨by omega, fun i hi => hr i hi, in_steps hr hs, fun i hi => ?_, fun i hi => sum_lo hr i (by omega), hM, ?_, ⟨m, by have := hP.own; rwa [hpl] at this⟩, hl, fun i p hp => ?_, hP.nd, fun p hp ad e => ?_, fun i j hij hj => ?_⟩
  · have h1 := hs i hi
    have h2 := sum_lo hr i (by omega)
    show r.len i ≤ _
    have := h1.2.1
    omega
  · show IsRow W W.heap.size 2 A k r.cell
    refine (IsRow.of_own ho).congr fun j hj => ?_
    simp [rowR, List.getD_eq_getElem?_getD, hj]
  · exact (hP.row p (List.mem_of_getElem? hp)).2.2
  · have h1 := (hP.row p hp).1
    have h2 := hb ad.block (by rw [e]; rfl)
    omega
  · show sum r i + r.len i ≤ sum r j
    exact sum_up hr (by omega) hij
/-- Nothing that was there has changed. -/
theorem RM.below {W W' : World} {m k c : Nat} {A : Option Addr} {r : Rg} {x : Value} {ps : List (Nat × Nat)} {g : Nat → Int} (h : RM W m k c A r x ps g) (hb : Below W.heap.size W W') : RM W' m k c A r x ps g := by
  obtain ⟨B, ho⟩ := h.own
  exact ⟨h.k1, h.raw, h.rin, h.len1, h.st0, h.two.of_block (hb.block _ h.two.lt), (IsRow.below h.lst hb).more hb.size, ⟨B, ho.kept (row := none) (only_of_below hb none) (by cases x.ownBlock <;> simp)⟩, h.len, fun i p hp => (h.row i p hp).of_block (hb.block _ (h.row i p hp).lt), h.nd, h.ap, h.up⟩

set_option maxRecDepth 100000 in
theorem r_read_neg (v : Value) (a n : Int) (w : World) (hn : n < 0) : Calls Try.prog 55 #[v, .int .u64 a, .int .i64 n] w (GmWord.Gives w.heap.size w (.tuple #[.slice none 0 0, .int .i64 2])) := by
  unfold GmWord.Gives
  have f0 : decide (n < (0 : Int)) = true := decide_eq_true hn
  go_enter Try.func55, Try.ntmps55
  go_wp2_with fail
  go_returns
  exact ⟨rfl, by go_grown⟩
set_option maxRecDepth 100000 in
theorem r_read_zero (v : Value) (a : Int) (w : World) : Calls Try.prog 55 #[v, .int .u64 a, .int .i64 0] w (GmWord.Gives w.heap.size w (.tuple #[.slice none 0 0, .int .i64 0])) := by
  unfold GmWord.Gives
  go_enter Try.func55, Try.ntmps55
  go_wp2_with fail
  go_returns
  exact ⟨rfl, by go_grown⟩
end Go.Proofs.Ytkejcdephnkkgaa.GmRefP

/- The document's own memory: Write. -/
namespace Go.Proofs.Ytkejcdephnkkgaa.GmRefP
open Go.RowKit Rw GmFind GmWord GmCheck GmNew GmCopyR GmRef GmRefN GmRefM SgConcat
set_option linter.unusedVariables false
set_option linter.unusedSimpArgs false

theorem row_ty {W : World} {b n n' : Nat} {t t' : TypeId} {f f' : Nat → Value} (h : W.rowIs b t n f) (h' : W.rowIs b t' n' f') : t = t' := by
  obtain ⟨c, h1, _⟩ := h
  obtain ⟨c', h2, _⟩ := h'
  rw [h1] at h2
  injection h2 with h2
  injection h2
/-- Bytes with others in their place. -/
def putG (g : Nat → Int) (o n : Nat) (gb : Nat → Int) : Nat → Int := fun q => if o ≤ q ∧ q < o + n then gb (q - o) else g q
section
variable {W W' : World} {mm k c : Nat} {A : Option Addr} {r : Rg} {x : Value} {ps : List (Nat × Nat)} {g : Nat → Int}
theorem RM.size (h : RM W mm k c A r x ps g) : ps.length = k := by have := congrArg List.length h.len; simpa [lens] using this
theorem RM.at (h : RM W mm k c A r x ps g) {i : Nat} {p : Nat × Nat} (hp : ps[i]? = some p) : i < k ∧ p.2 = (r.len i).toNat := by
  have hi : i < k := by rw [← h.size]; exact (List.getElem?_eq_some_iff.1 hp).1
  refine ⟨hi, ?_⟩
  have := congrArg (fun l => l[i]?) h.len
  simp only [List.getElem?_map, hp, lens, Option.map_some] at this
  rw [List.getElem?_range hi] at this
  simpa using this
theorem RM.wrote (h : RM W mm k c A r x ps g) {i P N : Nat} {p : Nat × Nat} (hp : ps[i]? = some p) (hPN : P + N ≤ p.2) (gb : Nat → Int) (hg : W.grownBy W' (some p.1))
    (hrow : W'.rowIs p.1 5 p.2 (fun j => if P ≤ j ∧ j < P + N then .int .u8 (gb (j - P)) else .int .u8 (g ((r.st i).toNat + j)))) : RM W' mm k c A r x ps (putG g ((r.st i).toNat + P) N gb) := by
  obtain ⟨hi, hp2⟩ := h.at hp
  have hpr := h.row i p hp
  have s0 := h.st0 i hi
  obtain ⟨B, ho⟩ := h.own
  refine ⟨h.k1, h.raw, h.rin, h.len1, h.st0, kept_row h.two hg (fun e => ?_), fun hn => ?_, ⟨B, ho.kept hg (.inr (own_ty ho hpr))⟩, h.len, fun i' p' hp' => ?_, h.nd, h.ap, h.up⟩
  · injection e with e
    rw [e] at hpr
    exact absurd (row_ty h.two hpr) (by decide)
  · obtain ⟨ad, e, hlt, hc⟩ := h.lst hn
    refine ⟨ad, e, Nat.lt_of_lt_of_le hlt hg.size, fun j hj => (World.cell?_of_block (hg.block _ (by rw [block_of_add]; exact hlt) (fun e' => ?_))).trans (hc j hj)⟩
    rw [block_of_add] at e'
    injection e' with e'
    exact h.ap p (List.mem_of_getElem? hp) ad e e'
  · obtain ⟨hi', hp2'⟩ := h.at hp'
    have s1 := h.st0 i' hi'
    by_cases he : i' = i
    · subst he
      obtain rfl : p' = p := by rw [hp] at hp'; injection hp' with hp'; exact hp'.symm
      refine hrow.congr fun j hj => ?_
      unfold putG
      by_cases hc : P ≤ j ∧ j < P + N
      · rw [if_pos hc, if_pos (by omega)]
        congr 2
        omega
      · rw [if_neg hc, if_neg (by omega)]
    · have hne : p'.1 ≠ p.1 := fun e => he (by
        have hnd := h.nd
        have h1 : (ps.map (·.1))[i']? = some p'.1 := by rw [List.getElem?_map, hp']; rfl
        have h2 : (ps.map (·.1))[i]? = some p'.1 := by rw [List.getElem?_map, hp, e]; rfl
        exact (List.getElem?_inj (by rw [List.length_map, h.size]; exact hi') hnd).1 (h1.trans h2.symm))
      refine (kept_row (h.row i' p' hp') hg (fun e => hne (by injection e with e; exact e.symm))).congr fun j hj => ?_
      unfold putG
      rw [if_neg]
      intro hc
      rcases Nat.lt_or_ge i' i with hl | hl
      · have := h.up i' i hl hi
        omega
      · have := h.up i i' (by omega) hi'
        omega
end
/-- Part i, its block named by the list of parts. -/
theorem RM.part2 {W : World} {mm k c : Nat} {A : Option Addr} {r : Rg} {x : Value} {ps : List (Nat × Nat)} {g : Nat → Int} (h : RM W mm k c A r x ps g) {i : Nat} (hi : i < k) : ∃ G b c3, x = .slice (some ⟨G, 0, none⟩) k c3 ∧ G < W.heap.size ∧ ps[i]? = some (b, (r.len i).toNat) ∧ W.cell? ⟨G, i, none⟩ = some (.slice (some ⟨b, 0, none⟩) (r.len i).toNat (r.len i).toNat) := by
  obtain ⟨B, hown⟩ := h.own
  obtain ⟨p, hp⟩ : ∃ p, ps[i]? = some p := ⟨_, List.getElem?_eq_getElem (by rw [h.size]; exact hi)⟩
  obtain ⟨_, h2⟩ := h.at hp
  obtain ⟨A3, c3, rfl⟩ := own_slice hown
  rcases hown.2 with ⟨_, h0⟩ | ⟨G, cap, cur, he, _⟩
  · omega
  · obtain ⟨rfl, rfl⟩ : A3 = some ⟨G, 0, none⟩ ∧ c3 = cap := by injection he with e1 _ e2; exact ⟨e1, e2⟩
    refine ⟨G, p.1, c3, rfl, (hown.lt G rfl).2, by rw [hp, ← h2], ?_⟩
    rw [hown.cellAt i (by omega), List.getElem?_map, hp]
    simp [sl, h2]

set_option maxRecDepth 100000 in
set_option maxHeartbeats 4000000 in
theorem r_write_ok {mm k c : Nat} {A : Option Addr} {r : Rg} {x : Value} {ps : List (Nat × Nat)} {g : Nat → Int} (a : Int) (N o cb : Nat) (AB : Option Addr) (gb : Nat → Int) (w : World) (h : RM w mm k c A r x ps g) (ha : 0 ≤ a ∧ a ≤ 18446744073709551615) (hn : 0 < N ∧ N ≤ 1048576) (hp : place r k a N = some o)
    (hsrc : IsRow w w.heap.size 1 AB N (fun j => .int .u8 (gb j))) :
    Calls Try.prog 53 #[.pointer (some ⟨mm, 0, none⟩), .int .u64 a, .slice AB N cb] w fun e w' => e = .returned (.int .i64 0) ∧ RM w' mm k c A r x ps (putG g o N gb) ∧ ∃ p ∈ ps, w.grownBy w' (some p.1) := by
  have HF := Lib.hid (h.find ha (n := N) (by omega))
  have HY := Lib.hid (show ∀ i, i < k → inR r a N i → o = (r.st i + (a - r.at_ i)).toNat from fun i hi hin => by have := place_at h.rin hi hin; rw [hp] at this; injection this)
  have HX := Lib.hid (show ∃ i, i < k ∧ inR r a N i from (place_inR h.rin).1 (by rw [hp]; rfl))
  have H := Lib.hid h
  have f1 : decide ((N : Int) = (0 : Int)) = false := decide_eq_false (by omega)
  have f2 : IntKind.u64.wrap (N : Int) = N := by rw [IntKind.wrap_u64]; omega
  have HSR := Lib.hid hsrc
  clear h hp hsrc
  go_enter Try.func53, Try.ntmps53
  go_wp2_with fail
  refine HF.out.mono ?_
  rintro e W ⟨hb, ⟨i, hi, hin, _, rfl⟩ | ⟨hno, rfl⟩⟩
  · obtain ⟨G, b, c3, hxe, hGl, hps, hc⟩ := H.out.part2 hi
    have s0 := H.out.st0 i hi
    have l1 := H.out.len1 i hi
    obtain ⟨r1, r2, r3, r4⟩ := H.out.raw i hi
    have eo := HY.out i hi hin
    obtain ⟨d1, d2, d3, d4⟩ := hin
    obtain ⟨P, hP⟩ : ∃ P : Nat, a - r.at_ i = P := ⟨(a - r.at_ i).toNat, by omega⟩
    obtain ⟨L, hL⟩ : ∃ L : Nat, (r.len i).toNat = L := ⟨_, rfl⟩
    have hPL : P + N ≤ L := by omega
    have hLL : L ≤ 1048576 := by omega
    rw [hL] at hc hps
    rw [hP]
    have EO := Lib.hid (show o = (r.st i).toNat + P by omega)
    have m2 : W.cell? ⟨mm, 1, none⟩ = some (.slice (some ⟨G, 0, none⟩) k c3) := by
      have := (hb.cell (p := ⟨mm, 1, none⟩) H.out.two.lt).trans (H.out.two.cell (i := 1) (by decide))
      rw [← hxe]; exact this
    have mc := (hb.cell (p := ⟨G, i, none⟩) hGl).trans hc
    have HR := Lib.hid (H.out.row i _ hps)
    have hrow1 := HR.out.of_block (hb.block b HR.out.lt)
    obtain ⟨cur, hh, hsz, hcur⟩ := hrow1
    obtain ⟨ad, rfl, had, hcc⟩ := HSR.out (by omega)
    obtain ⟨cs, hcs⟩ : ∃ cs : List Value, (List.range N).map (fun j => Value.int .u8 (gb j)) = cs := ⟨_, rfl⟩
    have hlen : cs.length = N := by rw [← hcs]; simp
    have HCS := Lib.hid hcs
    have E1 := Lib.hid (show (Try.prog.info? 5).map (·.size) = some 1 from by kernel_rfl)
    have E2 := Lib.hid hh
    have E3 := Lib.hid (show cs.length = Nat.min N (L - P) from by rw [hlen]; exact (Nat.min_eq_left (by omega)).symm)
    have E4 := Lib.hid (show P + cs.length ≤ cur.size from by rw [hlen, hsz]; exact hPL)
    have E5 := Lib.hid (show ∀ v ∈ cs, v.oneCell' = true from by
      intro v hv
      rw [← HCS.out] at hv
      obtain ⟨q, _, rfl⟩ := List.mem_map.1 hv
      rfl)
    have E6 := Lib.hid (show ∀ j v, cs[j]? = some v → W.cell? (ad.add j) = some v from by
      intro j v hj
      rw [← HCS.out] at hj
      simp only [List.getElem?_map, Option.map_eq_some_iff] at hj
      obtain ⟨q, hq, rfl⟩ := hj
      obtain ⟨hq1, hq2⟩ := List.getElem?_eq_some_iff.1 hq
      simp at hq1 hq2
      subst hq2
      exact (hb.cell (p := ad.add j) (show (ad.add j).block < _ from by rw [block_of_add]; exact had)).trans (hcc j (by omega)))
    have HCU := Lib.hid hcur
    have HPS := Lib.hid hps
    have HBB := Lib.hid (only_of_below hb (some b))
    have HSZ := Lib.hid hsz
    have HLE := Lib.hid hlen
    have hLP : ¬ L = P := by omega
    have x1 : (0 : Int) ≤ (P : Int) ∧ (P : Int) ≤ (L : Int) := by omega
    have x2 : (i : Int) < (k : Int) := by omega
    have f3 : decide ((i : Int) < (0 : Int)) = false := decide_eq_false (by omega)
    clear hcs hcc hb hh hcur hsz hlen hc eo d1 d2 d3 d4 r1 r2 r3 r4 s0 l1 hxe hps
    go_wp2_with (refine wpList_copy_own rfl _ _ 24 24 rfl 5 Try.underlying24 E1.out b P (L - P) (L - P) ad N cb rfl rfl cur 5 E2.out cs E3.out E6.out E4.out E5.out ?_)
    go_ret
    have hcl := HLE.out
    have hcz := HSZ.out
    have hg1 := HBB.out
    have hgw : w.grownBy (W.setRow b (cur.toList.take P ++ (cs ++ cur.toList.drop (P + cs.length))).toArray) (some b) :=
      ⟨hg1.os, hg1.tape, hg1.output, by simpa [World.setRow] using hg1.size, fun k hk hne => (setRow_other _ _ _ _ (by rintro rfl; exact hne rfl)).trans (hg1.block k hk hne)⟩
    refine ⟨rfl, ?_, (b, L), List.mem_of_getElem? HPS.out, hgw⟩
    rw [EO.out]
    refine H.out.wrote HPS.out hPL gb hgw ⟨(cur.toList.take P ++ (cs ++ cur.toList.drop (P + cs.length))).toArray, setRow_heap _ _ _ _ _ _ E2.out, ?_, fun q hq => ?_⟩
    · have := E4.out
      rw [List.size_toArray]
      simp only [List.length_append, List.length_take, List.length_drop, Array.length_toList]
      show _ = L
      have hcz' : cur.size = L := hcz
      omega
    · have h4 := E4.out
      have hcz' : cur.size = L := hcz
      have hq' : q < L := hq
      have hcn : cur.toList.length = L := by rw [Array.length_toList]; exact hcz
      rw [List.getElem?_toArray]
      show _ = some (if P ≤ q ∧ q < P + N then Value.int .u8 (gb (q - P)) else Value.int .u8 (g ((r.st i).toNat + q)))
      by_cases h1 : q < P
      · rw [List.getElem?_append_left (by rw [List.length_take, hcn]; omega), List.getElem?_take, if_pos h1, if_neg (by omega)]
        rw [Array.getElem?_toList]
        exact HCU.out q hq
      · rw [List.getElem?_append_right (by rw [List.length_take, hcn]; omega), List.length_take, hcn, Nat.min_eq_left (by omega)]
        by_cases h2 : q < P + N
        · rw [List.getElem?_append_left (by omega), if_pos (by omega), ← HCS.out]
          rw [List.getElem?_map, List.getElem?_range (by omega)]
          rfl
        · rw [List.getElem?_append_right (by omega), List.getElem?_drop, if_neg (by omega), Array.getElem?_toList, show P + cs.length + (q - P - cs.length) = q from by omega]
          exact HCU.out q hq
  · obtain ⟨i, hi, hin⟩ := HX.out
    exact absurd hin (hno i hi)

set_option maxRecDepth 100000 in
theorem r_write_zero (v : Value) (a : Int) (AB : Option Addr) (cb : Nat) (w : World) : Calls Try.prog 53 #[v, .int .u64 a, .slice AB 0 cb] w (GmWord.Gives w.heap.size w (.int .i64 0)) := by
  unfold GmWord.Gives
  go_enter Try.func53, Try.ntmps53
  go_wp2_with fail
  go_ret
  exact ⟨rfl, by go_grown⟩
set_option maxRecDepth 100000 in
set_option maxHeartbeats 2000000 in
theorem r_write_no {mm k c : Nat} {A : Option Addr} {r : Rg} {x : Value} {ps : List (Nat × Nat)} {g : Nat → Int} (a : Int) (N cb : Nat) (AB : Option Addr) (w : World) (h : RM w mm k c A r x ps g) (ha : 0 ≤ a ∧ a ≤ 18446744073709551615) (hn : 0 < N ∧ N ≤ 9223372036854775807) (hp : place r k a N = none) :
    Calls Try.prog 53 #[.pointer (some ⟨mm, 0, none⟩), .int .u64 a, .slice AB N cb] w (GmWord.Gives w.heap.size w (.int .i64 5)) := by
  unfold GmWord.Gives
  have HF := Lib.hid (h.find ha (n := N) (by omega))
  have HP := Lib.hid (show ∀ i, i < k → ¬ inR r a N i from fun i hi hin => by have := place_at h.rin hi hin; rw [hp] at this; cases this)
  have f1 : decide ((N : Int) = (0 : Int)) = false := decide_eq_false (by omega)
  have f2 : IntKind.u64.wrap (N : Int) = N := by rw [IntKind.wrap_u64]; omega
  clear h hp
  go_enter Try.func53, Try.ntmps53
  go_wp2_with fail
  refine HF.out.mono ?_
  rintro e W ⟨hb, ⟨i, hi, hin, _, rfl⟩ | ⟨hno, rfl⟩⟩
  · exact (HP.out i hi hin).elim
  · go_wp2_with fail
    go_ret
    exact ⟨rfl, by go_grown⟩
end Go.Proofs.Ytkejcdephnkkgaa.GmRefP

/- Words and their parts: numbers of the law GmemWords. No program here. -/
namespace Go.Proofs.Ytkejcdephnkkgaa.GmWordsM
open Go.RowKit Le
set_option linter.unusedVariables false
set_option linter.unusedSimpArgs false

theorem div_div (v b c : Int) (hb : 0 < b) : v / b / c = v / (b * c) := by
  rw [Int.ediv_ediv, if_neg (fun h => by omega), Int.sub_zero]
theorem byte_shift (v : Int) (i t : Nat) : byteI v (i + t) = byteI (v / 2 ^ (8 * i)) t := by
  unfold byteI
  rw [div_div _ _ _ (pow_pos i), ← Int.pow_add, show 8 * i + 8 * t = 8 * (i + t) from by omega]
theorem word_shift (v : Int) (hv : 0 ≤ v) (i n : Nat) : wordI (fun t => byteI v (i + t)) n = v / 2 ^ (8 * i) % 2 ^ (8 * n) := by
  rw [word_congr (h := byteI (v / 2 ^ (8 * i))) (fun t _ => byte_shift v i t), word_byte _ (Int.ediv_nonneg hv (Int.le_of_lt (pow_pos i)))]
theorem word_split (g : Nat → Int) (n : Nat) : ∀ m, wordI g (n + m) = wordI g n + 2 ^ (8 * n) * wordI (fun t => g (n + t)) m
  | 0 => by simp [wordI]
  | m + 1 => by
    show wordI g (n + m) + g (n + m) * 2 ^ (8 * (n + m)) = _
    rw [word_split g n m]
    show _ = wordI g n + 2 ^ (8 * n) * (wordI (fun t => g (n + t)) m + g (n + m) * 2 ^ (8 * m))
    rw [Int.mul_add, show 8 * (n + m) = 8 * n + 8 * m from by omega, Int.pow_add, Int.mul_comm (g (n + m)), Int.mul_assoc, Int.add_assoc, Int.mul_comm (2 ^ (8 * m)) (g (n + m))]
theorem step (v : Int) (i n : Nat) : v / 2 ^ (8 * (i + n)) * 2 ^ (8 * n) + v / 2 ^ (8 * i) % 2 ^ (8 * n) = v / 2 ^ (8 * i) := by
  rw [show 8 * (i + n) = 8 * i + 8 * n from by omega, Int.pow_add, ← div_div _ _ _ (pow_pos i)]
  generalize v / 2 ^ (8 * i) = z
  rw [Int.mul_comm]
  exact Int.mul_ediv_add_emod z _
theorem or_parts {b x : Int} {k : Nat} (hb : 0 ≤ b) (hx : 0 ≤ x) (hxk : x < 2 ^ k) (h : b * 2 ^ k + x ≤ 18446744073709551615) : bits .or .u64 (IntKind.u64.wrap (b * 2 ^ k)) x = b * 2 ^ k + x := by
  obtain ⟨B, rfl⟩ := Int.eq_ofNat_of_zero_le hb
  obtain ⟨X, rfl⟩ := Int.eq_ofNat_of_zero_le hx
  have e : ((B : Int) * 2 ^ k) = ((B * 2 ^ k : Nat) : Int) := by simp
  have hX : X < 2 ^ k := by
    have : ((2 ^ k : Nat) : Int) = (2 : Int) ^ k := Int.natCast_pow 2 k
    omega
  rw [e] at h ⊢
  rw [IntKind.wrap_u64, Int.emod_eq_of_lt (by omega) (by omega), u64_or _ _ (by omega) (by omega) (by omega) (by omega), Int.toNat_natCast, Int.toNat_natCast, Nat.mul_comm, ← Nat.two_pow_add_eq_or_of_lt hX]
  omega
theorem mask_nat (V W k : Nat) (hk : k ≤ 64) (hV : V < 2 ^ 64) : (V &&& (2 ^ 64 - 1 - (2 ^ k - 1))) ||| (W &&& (2 ^ k - 1)) = 2 ^ k * (V / 2 ^ k) + W % 2 ^ k := by
  have hp := Nat.two_pow_pos k
  rw [Nat.two_pow_add_eq_or_of_lt (Nat.mod_lt W hp), Nat.and_two_pow_sub_one_eq_mod]
  congr 1
  refine Nat.eq_of_testBit_eq fun i => ?_
  have e : 2 ^ 64 - 1 - (2 ^ k - 1) = 2 ^ 64 - (2 ^ k - 1 + 1) := by omega
  rw [Nat.testBit_and, e, Nat.testBit_two_pow_sub_succ (by have := Nat.pow_le_pow_right (n := 2) (by decide) hk; omega), Nat.testBit_two_pow_sub_one, Nat.mul_comm, ← Nat.shiftLeft_eq, Nat.testBit_shiftLeft, Nat.testBit_div_two_pow]
  by_cases h : k ≤ i
  · rw [show i - k + k = i from by omega]
    by_cases h64 : i < 64
    · simp [h, h64, Nat.not_lt.2 h]
    · have : V.testBit i = false := Nat.testBit_lt_two_pow (Nat.lt_of_lt_of_le hV (Nat.pow_le_pow_right (by decide) (by omega)))
      simp [this]
  · simp [h, Nat.lt_of_not_le h]

/-- A word stored over another's first bytes, as the masks have it. -/
theorem masked {v u : Int} {n : Nat} (hv : 0 ≤ v ∧ v ≤ 18446744073709551615) (hu : 0 ≤ u ∧ u ≤ 18446744073709551615) (hn : n ≤ 7) {M : Int} (hM : M = 2 ^ (8 * n) - 1) :
    bits .or .u64 (bits .andNot .u64 v M) (bits .and .u64 u M) = wordI (fun t => if t < n then byteI u t else byteI v t) 8 := by
  obtain ⟨V, rfl⟩ := Int.eq_ofNat_of_zero_le hv.1
  obtain ⟨U, rfl⟩ := Int.eq_ofNat_of_zero_le hu.1
  have hp := Nat.two_pow_pos (8 * n)
  have hp2 : 2 ^ (8 * n) ≤ 2 ^ 56 := Nat.pow_le_pow_right (by decide) (by omega)
  have hp3 : (2 : Nat) ^ 56 = 72057594037927936 := by decide
  have e : ((2 ^ (8 * n) : Nat) : Int) = (2 : Int) ^ (8 * n) := Int.natCast_pow 2 (8 * n)
  obtain rfl : M = ((2 ^ (8 * n) - 1 : Nat) : Int) := by rw [hM, ← e]; omega
  have h1 : bits .andNot .u64 (V : Int) ((2 ^ (8 * n) - 1 : Nat) : Int) = ((V &&& (18446744073709551615 - (2 ^ (8 * n) - 1)) : Nat) : Int) := u64_andNot_nat V (2 ^ (8 * n) - 1) (by omega) (by omega)
  have h2 : bits .and .u64 (U : Int) ((2 ^ (8 * n) - 1 : Nat) : Int) = ((U &&& (2 ^ (8 * n) - 1) : Nat) : Int) := u64_and_nat U (2 ^ (8 * n) - 1) (by omega) (by omega)
  have l1 : V &&& (18446744073709551615 - (2 ^ (8 * n) - 1)) ≤ V := Nat.and_le_left
  have l2 : U &&& (2 ^ (8 * n) - 1) ≤ U := Nat.and_le_left
  rw [h1, h2, u64_or _ _ (by omega) (by omega) (by omega) (by omega), Int.toNat_natCast, Int.toNat_natCast]
  have hm := mask_nat V U (8 * n) (by omega) (by omega)
  have h64 : (2 : Nat) ^ 64 - 1 = 18446744073709551615 := by decide
  rw [h64] at hm
  rw [hm]
  have hs := word_split (fun t => if t < n then byteI (U : Int) t else byteI (V : Int) t) n (8 - n)
  rw [show n + (8 - n) = 8 from by omega] at hs
  rw [hs, word_congr (h := byteI (U : Int)) (n := n) (fun t ht => by rw [if_pos ht]), word_congr (h := fun t => byteI (V : Int) (n + t)) (n := 8 - n) (fun t ht => by rw [if_neg (by omega)]), word_byte _ (by omega), word_shift _ (by omega)]
  have hV : (V : Int) / 2 ^ (8 * n) % 2 ^ (8 * (8 - n)) = (V : Int) / 2 ^ (8 * n) := by
    refine Int.emod_eq_of_lt (Int.ediv_nonneg (by omega) (by rw [← e]; omega)) ?_
    rw [← e, show ((V : Int) / ((2 ^ (8 * n) : Nat) : Int)) = ((V / 2 ^ (8 * n) : Nat) : Int) from by simp]
    have : V / 2 ^ (8 * n) < 2 ^ (8 * (8 - n)) := by
      rw [Nat.div_lt_iff_lt_mul hp, ← Nat.pow_add, show 8 * (8 - n) + 8 * n = 64 from by omega]
      omega
    have e2 : ((2 ^ (8 * (8 - n)) : Nat) : Int) = (2 : Int) ^ (8 * (8 - n)) := Int.natCast_pow 2 _
    omega
  rw [hV, ← e]
  simp only [Int.natCast_add, Int.natCast_mul, Int.natCast_ediv, Int.natCast_emod]
  omega

end Go.Proofs.Ytkejcdephnkkgaa.GmWordsM

/- The document's own memory: Load. -/
namespace Go.Proofs.Ytkejcdephnkkgaa.GmRefP
open Go.RowKit Rw Le GmFind GmWord GmCheck GmNew GmCopyR GmRef GmRefN GmRefM GmLoad
set_option linter.unusedVariables false
set_option linter.unusedSimpArgs false

theorem word_cons (h : Nat → Int) (m : Nat) : wordI h (m + 1) = h 0 + 256 * wordI (fun j => h (1 + j)) m := by
  have := GmWordsM.word_split h 1 m
  rw [Nat.add_comm 1 m] at this
  rw [this]
  have e1 : wordI h 1 = h 0 := by show (0 : Int) + h 0 * 2 ^ (8 * 0) = h 0; simp
  have e2 : (2 : Int) ^ (8 * 1) = 256 := by decide
  rw [e1, e2]

theorem one_of {nb : Int} (h : nb = 1 ∨ nb = 2 ∨ nb = 4 ∨ nb = 8) : ((nb != 1) = false) ∨ ((nb != 1) = true ∧ (nb != 2) = false) ∨ ((nb != 1) = true ∧ (nb != 2) = true ∧ (nb != 4) = false) ∨ ((nb != 1) = true ∧ (nb != 2) = true ∧ (nb != 4) = true ∧ (nb != 8) = false) := by
  rcases h with rfl | rfl | rfl | rfl <;> simp

end Go.Proofs.Ytkejcdephnkkgaa.GmRefP

/- The document's own memory: Store. -/
namespace Go.Proofs.Ytkejcdephnkkgaa.GmRefP
open Go.RowKit Rw Le GmFind GmWord GmCheck GmNew GmCopyR GmRef GmRefN GmRefM GmLoad
set_option linter.unusedVariables false
set_option linter.unusedSimpArgs false

end Go.Proofs.Ytkejcdephnkkgaa.GmRefP

/- Memory in regions: Check of a list that is not valid. -/
namespace Go.Proofs.Ytkejcdephnkkgaa.GmBad
open Go.RowKit Rw GmFind GmWord GmCheck
set_option linter.unusedVariables false
set_option linter.unusedSimpArgs false

set_option maxRecDepth 100000 in
theorem check_many (A : Option Addr) (k c : Nat) (w : World) (hk : 16 < k) : Calls Try.prog 42 #[.slice A k c] w (Gives w.heap.size w (.int .i64 2)) := by
  unfold Gives
  have h : decide ((16 : Int) < (k : Int)) = true := decide_eq_true (by omega)
  go_enter Try.func42, Try.ntmps42
  go_wp2
  go_ret
  exact ⟨rfl, by go_grown⟩

set_option maxRecDepth 100000 in
set_option maxHeartbeats 8000000 in
theorem check_bad (A : Option Addr) (k c j : Nat) (r : Rg) (w : World) (hk : k ≤ 16) (hr : Raw r k) (hj : j < k) (hs : ∀ i, i < j → Step r i) (hbad : ¬ Step r j) (h : Lst w w.heap.size A k r) :
    Calls Try.prog 42 #[.slice A k c] w (Gives w.heap.size w (.int .i64 2)) := by
  have HL := Lib.hid h
  have HR := Lib.hid hr
  have HS := Lib.hid hs
  have HB := Lib.hid hbad
  clear h hr hs hbad
  have hsl : ∀ i, i ≤ j → 0 ≤ sum r i ∧ sum r i ≤ 1048576 := by
    intro i hi
    refine ⟨sum_lo HR.out i (by omega), ?_⟩
    cases i with
    | zero => show (0 : Int) ≤ 1048576; omega
    | succ p => exact (HS.out p (by omega)).2.1
  have HSL := Lib.hid hsl
  clear hsl
  go_enter Try.func42, Try.ntmps42
  go_wp2_with fail
  go_loopw [3, 11] (fun x y wr => ∃ i : Nat, i ≤ j ∧ x = .int .u64 (sum r i) ∧ y = .int .i64 i ∧ Below w.heap.size w wr) (fun x y wr => k - (intOf y).toNat)
  case atStart => exact ⟨0, by omega, rfl, rfl, Below.refl _ _⟩
  case round =>
    obtain ⟨i, hi, rfl, rfl, hb⟩ := hrel
    by_cases hlt : i < j
    · obtain ⟨ad, hA, had, hc⟩ := (HL.out.below hb) (by omega)
      have c0 := el0 hc (show i < k by omega) (by decide)
      have c1 := elj hc (show i < k by omega) 1 (by decide) (by decide)
      rw [Rg.cell0] at c0
      rw [Rg.cell1] at c1
      obtain ⟨s1, s2, s3, s4⟩ := HS.out i hlt
      obtain ⟨r1, r2, r3, r4⟩ := HR.out i (by omega)
      have t1 := sum_lo HR.out i (by omega)
      have HC := Lib.hid hc
      have HS4 := Lib.hid s4
      clear hc s4
      subst hA
      have hsw := hb.size
      have f1 : (r.len i == 0) = false := by simp; omega
      have f2 : decide (1048576 - sum r i < r.len i) = false := by simp; omega
      have f3 : decide (18446744073709551615 - r.at_ i < r.len i - 1) = false := by simp; omega
      have f4 : IntKind.u64.wrap (sum r i + r.len i) = sum r i + r.len i := by rw [IntKind.wrap_u64]; omega
      by_cases h0 : i = 0
      · have e0 : decide ((0 : Int) < (i : Int)) = false := by simp; omega
        have e0' : decide (0 < i) = false := by simp; omega
        have H0 := Lib.hid h0
        clear h0
        go_wp2_with fail
        refine Lib.wp_region_class (Lib.Held w _ [(wr.heap.size, 0, (.int .u64 (r.at_ i) : Value)), (wr.heap.size, 1, (.int .u64 (r.len i) : Value))]) (by kernel_rfl) (by kernel_rfl) ⟨by go_grown, Below.refl _ _, ⟨by go_size, by go_cell, by go_simp⟩, ⟨by go_size, by go_cell, by go_simp⟩, trivial⟩ ?_
        repeat (first | go_big_quiet_step ((intro hq; first | rfl | (go_simp; rfl))) | quiet_step ((intro hq; first | rfl | (go_simp; rfl))))
        refine wpQuiet_nil ?_
        intro W1 hq1
        obtain ⟨hb1, he1, ⟨hk1_0, hl1_0, hz1_0⟩, ⟨hk1_1, hl1_1, hz1_1⟩, _⟩ := hq1
        go_wp2_with fail
        go_roundw
        case rel => exact ⟨i + 1, by omega, rfl, by go_num, hb1⟩
        case measure => simp [intOf]; omega
      · obtain ⟨p, rfl⟩ : ∃ p, i = p + 1 := ⟨i - 1, by omega⟩
        have e0 : decide ((0 : Int) < ((p + 1 : Nat) : Int)) = true := decide_eq_true (by omega)
        have s4 := HS4.out (by omega)
        rw [Nat.add_sub_cancel] at s4
        have e4 : decide (r.at_ (p + 1) ≤ r.at_ p + (r.len p - 1)) = false := by simp; omega
        obtain ⟨p1, _, p3, _⟩ := HS.out p (by omega)
        obtain ⟨p0, _, _, _⟩ := HR.out p (by omega)
        obtain ⟨ad', hA', had', hc'⟩ := HL.out (by omega)
        cases hA'
        have d0 := el0 hc' (show p < k by omega) (by decide)
        have d1 := elj hc' (show p < k by omega) 1 (by decide) (by decide)
        rw [Rg.cell0] at d0
        rw [Rg.cell1] at d1
        have hap : (ad.add (p * 2)).block < w.heap.size := by rw [block_of_add]; exact had
        have hpp : ((p + 1 : Nat) : Int) - 1 = (p : Int) := by omega
        clear hc'
        go_wp2_with fail
        have hB0 : Below w.heap.size w (wr.alloc (.cells #[.int .u64 (r.at_ (p + 1)), .int .u64 (r.len (p + 1))] 75)).drew := by go_grown
        refine Lib.wp_region_class (Lib.Held w _ [(wr.heap.size, 0, (.int .u64 (r.at_ (p + 1)) : Value)), (wr.heap.size, 1, (.int .u64 (r.len (p + 1)) : Value))]) (by kernel_rfl) (by kernel_rfl) ⟨hB0, Below.refl _ _, ⟨by go_size, by go_cell, by go_simp⟩, ⟨by go_size, by go_cell, by go_simp⟩, trivial⟩ ?_
        repeat (first | go_big_quiet_step ((intro hq; first | rfl | (go_at_call 66; exact Lib.Held.call hq (end_any _ _ _ p0 p1 p3)) | (have hq' := hq; obtain ⟨hbq, heq, ⟨hkq_0, hlq_0, hzq_0⟩, ⟨hkq_1, hlq_1, hzq_1⟩, _⟩ := hq'; have zz0 := (hbq.cell (p := ad.add (p * 2)) hap).trans d0; have zz1 := (hbq.cell (p := ⟨(ad.add (p * 2)).block, (ad.add (p * 2)).off + 1, none⟩) hap).trans d1; go_simp; rfl))) | quiet_step ((intro hq; first | rfl | (go_at_call 66; exact Lib.Held.call hq (end_any _ _ _ p0 p1 p3)) | (have hq' := hq; obtain ⟨hbq, heq, ⟨hkq_0, hlq_0, hzq_0⟩, ⟨hkq_1, hlq_1, hzq_1⟩, _⟩ := hq'; have zz0 := (hbq.cell (p := ad.add (p * 2)) hap).trans d0; have zz1 := (hbq.cell (p := ⟨(ad.add (p * 2)).block, (ad.add (p * 2)).off + 1, none⟩) hap).trans d1; go_simp; rfl))))
        refine wpQuiet_nil ?_
        intro W1 hq1
        obtain ⟨hb1, he1, ⟨hk1_0, hl1_0, hz1_0⟩, ⟨hk1_1, hl1_1, hz1_1⟩, _⟩ := hq1
        go_wp2_with fail
        go_roundw
        case rel => exact ⟨p + 1 + 1, by omega, rfl, by go_num, hb1⟩
        case measure => simp [intOf]; omega
    · obtain rfl : i = j := by omega
      obtain ⟨ad, hA, had, hc⟩ := (HL.out.below hb) (by omega)
      have c0 := el0 hc hj (by decide)
      have c1 := elj hc hj 1 (by decide) (by decide)
      rw [Rg.cell0] at c0
      rw [Rg.cell1] at c1
      obtain ⟨r1, r2, r3, r4⟩ := HR.out i hj
      obtain ⟨t1, t2⟩ := HSL.out i (Nat.le_refl _)
      clear hc
      subst hA
      have hsw := hb.size
      by_cases b1 : r.len i = 0
      · have f1 : (r.len i == 0) = true := by simp [b1]
        clear b1
        go_wp2_with fail
        go_ret
        exact ⟨rfl, by go_grown⟩
      have f1 : (r.len i == 0) = false := by simp [b1]
      have f4 : IntKind.u64.wrap (1048576 - sum r i) = 1048576 - sum r i := by rw [IntKind.wrap_u64]; omega
      by_cases b2 : 1048576 - sum r i < r.len i
      · go_wp2_with fail
        go_ret
        exact ⟨rfl, by go_grown⟩
      have f5 : IntKind.u64.wrap (r.len i - 1) = r.len i - 1 := by rw [IntKind.wrap_u64]; omega
      have f6 : IntKind.u64.wrap (18446744073709551615 - r.at_ i) = 18446744073709551615 - r.at_ i := by rw [IntKind.wrap_u64]; omega
      by_cases b3 : 18446744073709551615 - r.at_ i < r.len i - 1
      · go_wp2_with fail
        go_ret
        exact ⟨rfl, by go_grown⟩
      have hlast : 0 < i ∧ r.at_ i ≤ r.at_ (i - 1) + (r.len (i - 1) - 1) := by
        by_cases hp : 0 < i ∧ r.at_ i ≤ r.at_ (i - 1) + (r.len (i - 1) - 1)
        · exact hp
        · exact absurd ⟨by omega, by omega, by omega, fun h0 => by
            have : ¬ r.at_ i ≤ r.at_ (i - 1) + (r.len (i - 1) - 1) := fun h1 => hp ⟨h0, h1⟩
            omega⟩ HB.out
      obtain ⟨p, rfl⟩ : ∃ p, i = p + 1 := ⟨i - 1, by omega⟩
      have e0 : decide ((0 : Int) < ((p + 1 : Nat) : Int)) = true := decide_eq_true (by omega)
      have s4 := hlast.2
      rw [Nat.add_sub_cancel] at s4
      have e4 : decide (r.at_ (p + 1) ≤ r.at_ p + (r.len p - 1)) = true := decide_eq_true s4
      obtain ⟨p1, _, p3, _⟩ := HS.out p (by omega)
      obtain ⟨p0, _, _, _⟩ := HR.out p (by omega)
      obtain ⟨ad', hA', had', hc'⟩ := HL.out (by omega)
      cases hA'
      have d0 := el0 hc' (show p < k by omega) (by decide)
      have d1 := elj hc' (show p < k by omega) 1 (by decide) (by decide)
      rw [Rg.cell0] at d0
      rw [Rg.cell1] at d1
      have hap : (ad.add (p * 2)).block < w.heap.size := by rw [block_of_add]; exact had
      have hpp : ((p + 1 : Nat) : Int) - 1 = (p : Int) := by omega
      clear hc' s4 hlast
      go_wp2_with fail
      have hB0 : Below w.heap.size w (wr.alloc (.cells #[.int .u64 (r.at_ (p + 1)), .int .u64 (r.len (p + 1))] 75)).drew := by go_grown
      refine Lib.wp_region_class (Lib.Held w _ [(wr.heap.size, 0, (.int .u64 (r.at_ (p + 1)) : Value)), (wr.heap.size, 1, (.int .u64 (r.len (p + 1)) : Value))]) (by kernel_rfl) (by kernel_rfl) ⟨hB0, Below.refl _ _, ⟨by go_size, by go_cell, by go_simp⟩, ⟨by go_size, by go_cell, by go_simp⟩, trivial⟩ ?_
      repeat (first | go_big_quiet_step ((intro hq; first | rfl | (go_at_call 66; exact Lib.Held.call hq (end_any _ _ _ p0 p1 p3)) | (have hq' := hq; obtain ⟨hbq, heq, ⟨hkq_0, hlq_0, hzq_0⟩, ⟨hkq_1, hlq_1, hzq_1⟩, _⟩ := hq'; have zz0 := (hbq.cell (p := ad.add (p * 2)) hap).trans d0; have zz1 := (hbq.cell (p := ⟨(ad.add (p * 2)).block, (ad.add (p * 2)).off + 1, none⟩) hap).trans d1; go_simp; rfl))) | quiet_step ((intro hq; first | rfl | (go_at_call 66; exact Lib.Held.call hq (end_any _ _ _ p0 p1 p3)) | (have hq' := hq; obtain ⟨hbq, heq, ⟨hkq_0, hlq_0, hzq_0⟩, ⟨hkq_1, hlq_1, hzq_1⟩, _⟩ := hq'; have zz0 := (hbq.cell (p := ad.add (p * 2)) hap).trans d0; have zz1 := (hbq.cell (p := ⟨(ad.add (p * 2)).block, (ad.add (p * 2)).off + 1, none⟩) hap).trans d1; go_simp; rfl))))
      refine wpQuiet_nil ?_
      intro W1 hq1
      obtain ⟨hb1, he1, ⟨hk1_0, hl1_0, hz1_0⟩, ⟨hk1_1, hl1_1, hz1_1⟩, _⟩ := hq1
      go_wp2_with fail
      go_ret
      exact ⟨rfl, hb1⟩

end Go.Proofs.Ytkejcdephnkkgaa.GmBad

/- Memory in regions: New of a list that is not valid, and of none. -/
namespace Go.Proofs.Ytkejcdephnkkgaa.GmNew0
open Go.RowKit Rw GmFind GmWord GmCheck GmCopyR GmNew
set_option linter.unusedVariables false
set_option linter.unusedSimpArgs false

set_option maxRecDepth 100000 in
theorem new_no (A : Option Addr) (k c : Nat) (w : World) (h : ∀ W, w = W → Calls Try.prog 42 #[.slice A k c] W (GmWord.Gives W.heap.size W (.int .i64 2))) : Calls Try.prog 9 #[.slice A k c] w (GmWord.Gives w.heap.size w (.tuple #[.pointer none, .int .i64 2])) := by
  unfold GmWord.Gives
  have H := Lib.hid h
  clear h
  go_enter Try.func9, Try.ntmps9
  go_wp2_with fail
  refine (H.out _ rfl).mono ?_
  rintro e W1 ⟨rfl, hg1⟩
  go_wp2_with fail
  go_returns
  exact ⟨rfl, by go_grown⟩

theorem run_copy_zero {P : Program} (w : World) (dT sT ty elem : TypeId) (z : Nat) (d a : Option Addr) (dLen dCap sLen sCap : Nat) (hu : P.underlying dT = some (.slice elem)) (hs : (P.info? elem).map (·.size) = some z) (hn : Nat.min sLen dLen = 0) :
    (Builtin.copy_ #[dT, sT] ty #[.slice d dLen dCap, .slice a sLen sCap]).run P w = .ok (goInt 0) w := by
  cases hq : P.info? elem with
  | none => simp [hq] at hs
  | some i =>
    have hl : ∀ (x : Addr), (loadCells x 0).run P w = .ok #[] w := fun x => by simpa using run_loadCells_list (P := P) w x [] (by simp)
    cases d <;> cases a <;> simp [Builtin.copy_, run_underlying hu, Builtin.lenOf, Builtin.firstCells, sizeOf, typeInfo, hq, hn, storeCells, hl]

set_option maxRecDepth 100000 in
set_option maxHeartbeats 2000000 in
theorem copied_rg0 (A : Option Addr) (c : Nat) (w : World) :
    Calls Try.prog 43 #[.slice A 0 c] w fun e w' => ∃ b, e = .returned (.slice (some ⟨b, 0, none⟩) 0 0) ∧ w.heap.size ≤ b ∧ b < w'.heap.size ∧ (∀ o, w'.frozen? ⟨b, o, none⟩ = false) ∧ Below w.heap.size w w' := by
  obtain ⟨i0, hi, hz0, hz1, hz2⟩ := rginfo
  have H0 := Lib.hid hi
  have H1 := Lib.hid hz0
  have H2 := Lib.hid hz1
  have H3 := Lib.hid hz2
  clear hi hz0 hz1 hz2
  go_enter Try.func43, Try.ntmps43
  go_wp2_with (at_make; refine wpList_make_full _ rfl _ _ 22 rfl w.heap.size 75 i0 (.agg #[.int .u64 0, .int .u64 0]) 2 Try.underlying22 H0.out H1.out H2.out _ _ _ _ 0 rfl rfl rfl rfl (by rw [H3.out]; omega) (by unfold maxLen; omega) (Nat.le_refl _) ?_)
  intro w1 ho1 hg1
  obtain ⟨cur, hh⟩ : ∃ cur : Array Value, w1.heap[w.heap.size]? = some (.cells cur 75 (0, 0)) := by
    rcases ho1.2 with ⟨hx, _⟩ | ⟨g', cap, cur, he, _, hh, _⟩
    · cases hx
    · cases he
      exact ⟨cur, hh⟩
  have HH := Lib.hid hh
  have hb1 : Below w.heap.size w w1 := (Below.refl _ w).grown hg1 (Nat.le_refl _) (fun k e => by cases e)
  have hcp := fun ty => run_copy_zero (P := Try.prog) w1 22 22 ty 75 2 (some ⟨w.heap.size, 0, none⟩) A 0 0 0 c Try.underlying22 (by kernel_rfl) rfl
  clear ho1 hg1 hh
  go_wp2_with (simp only [hcp])
  go_ret
  refine ⟨w.heap.size, rfl, Nat.le_refl _, ?_, fun o => ?_, hb1⟩
  · obtain ⟨h1, _⟩ := Array.getElem?_eq_some_iff.1 HH.out
    exact h1
  · simp [World.frozen?, HH.out]

set_option maxRecDepth 100000 in
theorem grow_zero (w : World) : Calls Try.prog 44 #[.slice none 0 0, .int .i64 0] w fun e w' => e = .returned (.slice none 0 0) ∧ w = w' := by
  go_enter Try.func44, Try.ntmps44
  go_wp2
  go_ret
  exact ⟨rfl, rfl⟩

set_option maxRecDepth 100000 in
set_option maxHeartbeats 4000000 in
theorem new_none (A : Option Addr) (c : Nat) (r : Rg) (w : World) :
    Calls Try.prog 9 #[.slice A 0 c] w fun e w' => ∃ (m g1 : Nat), e = .returned (.tuple #[.pointer (some ⟨m, 0, none⟩), .int .i64 0]) ∧ MemAt w' m 0 g1 none none 0 0 0 0 r ∧ w.heap.size ≤ m ∧ w.heap.size ≤ g1 ∧ g1 < m ∧ Below w.heap.size w w' := by
  have hb0 : Below w.heap.size w w := Below.refl _ _
  have HC := Lib.hid (check_ok A 0 c r w (by decide) (fun i hi => by omega) (fun i hi => by omega) (fun h => by omega))
  go_enter Try.func9, Try.ntmps9
  go_wp2_with fail
  refine (HC.out).mono ?_
  rintro eE W1 ⟨rfl, hg1⟩
  have hs1 := hg1.size
  have hb1 : Below w.heap.size w W1 := hg1
  clear HC
  go_wp2_with fail
  (with_reducible refine (copied_rg0 A c _).mono ?_)
  rintro eE W2 ⟨g1, rfl, hg1', hlt1, hfz, hg2⟩
  have hb2 : Below w.heap.size w W2 := hb1.trans (hg2.mono hs1)
  have hs2 := hg2.size
  obtain ⟨m, hm⟩ : ∃ m, W2.heap.size = m := ⟨_, rfl⟩
  have HF := Lib.hid hfz
  clear hfz hg2
  have hcl : ∀ ty W, (Builtin.clear_ #[24] ty #[.slice none 0 0]).run Try.prog W = .ok (.tuple #[]) W := fun ty W => by
    simp [Builtin.clear_, run_underlying Try.underlying24]
  go_wp2_with fail
  refine wp_loop_rounds 1 ?_
  rw [rounds_succ]
  go_wp2_with fail
  refine (grow_zero _).mono ?_
  rintro eE W3 ⟨rfl, rfl⟩
  go_wp2_with (simp only [hcl])
  have hrow := World.rowIs_alloc W2 #[.pointer (some ⟨m, 0, none⟩), .slice (some ⟨g1, 0, none⟩) 0 0, .slice none 0 0, .slice none 0 0] 78 (memF m g1 0 none 0 0 (.slice none 0 0)) (fun i hi => by
    match i, hi with
    | 0, _ => rfl
    | 1, _ => rfl
    | 2, _ => rfl
    | 3, _ => rfl)
  rw [hm] at hrow
  have hbF : Below w.heap.size w (W2.alloc (.cells #[.pointer (some ⟨m, 0, none⟩), .slice (some ⟨g1, 0, none⟩) 0 0, .slice none 0 0, .slice none 0 0] 78)) := hb2.alloc hb2.size _
  have hfr : ∀ o, (W2.alloc (.cells #[.pointer (some ⟨m, 0, none⟩), .slice (some ⟨g1, 0, none⟩) 0 0, .slice none 0 0, .slice none 0 0] 78)).frozen? ⟨g1, o, none⟩ = false := fun o =>
    (World.frozen?_of_block (Below.heap_alloc W2 _ g1 hlt1)).trans (HF.out o)
  have hgl : g1 < (W2.alloc (.cells #[.pointer (some ⟨m, 0, none⟩), .slice (some ⟨g1, 0, none⟩) 0 0, .slice none 0 0, .slice none 0 0] 78)).heap.size := by rw [World.size_alloc]; omega
  have HH := Lib.hid (And.intro hrow (And.intro hbF (And.intro hfr hgl)))
  clear hrow hbF hfr hgl
  generalize hWF : (W2.alloc (.cells #[.pointer (some ⟨m, 0, none⟩), .slice (some ⟨g1, 0, none⟩) 0 0, .slice none 0 0, .slice none 0 0] 78)) = WF at HH ⊢
  go_returns
  obtain ⟨f1, f2, f3, f4⟩ := HH.out
  refine ⟨m, g1, rfl, ⟨f1.cell (i := 0) (by simp), f1.cell (i := 1) (by simp), f1.cell (i := 2) (by simp), f1.cell (i := 3) (by simp), f1.lt, f4, fun j hj => by omega, fun b o _ hbo => ?_, IsRow.none_⟩, by omega, by omega, by omega, f2⟩
  rcases hbo with rfl | rfl
  · exact f1.frozen o
  · exact f3 o

set_option maxRecDepth 100000 in
set_option maxHeartbeats 4000000 in
theorem find_none (m g1 : Nat) (at_ n : Int) (r : Rg) (w : World) (h : MemAt w m 0 g1 none none 0 0 0 0 r) :
    Calls Try.prog 67 #[.pointer (some ⟨m, 0, none⟩), .int .u64 at_, .int .u64 n] w (GmWord.Gives w.heap.size w (.slice none 0 0)) := by
  unfold GmWord.Gives
  have hb0 : Below w.heap.size w w := Below.refl _ _
  have hself := h.self
  have hregs := h.regs
  have hsts := h.sts
  have hbys := h.bys
  have hlt := h.lt
  have hr : r.In 0 := ⟨fun i hi => by omega, fun i hi => by omega, fun i hi => by omega, fun i hi => by omega⟩
  go_enter Try.func67, Try.ntmps67
  go_wp2_with fail
  have hB : Below w.heap.size w ((w.alloc (.cells #[.pointer (some ⟨m, 0, none⟩)] 28)).alloc (.cells #[.int .u64 at_] 25)) := by go_grown
  have hM := h.below hB
  have hS := search_any 0 m g1 (w.heap.size + 1) w.heap.size at_ r ((w.alloc (.cells #[.pointer (some ⟨m, 0, none⟩)] 28)).alloc (.cells #[.int .u64 at_] 25)) (by decide) hr hM (by go_cell) (by go_cell) (by go_size) (by go_size) (by go_simp) (by go_simp)
  rw [show ((0 : Nat) : Int) = 0 from rfl] at hS
  refine hS.mono ?_
  rintro e W1 ⟨i, rfl, hi, _, _, hg1⟩
  obtain rfl : i = 0 := by omega
  have y0 := hM.fz m 0 hM.lt (.inl rfl)
  have y1 := hM.fz m 1 hM.lt (.inl rfl)
  have y2 := hM.fz m 2 hM.lt (.inl rfl)
  have y3 := hM.fz m 3 hM.lt (.inl rfl)
  have hb1 : Below w.heap.size w W1 := (show Below w.heap.size w _ by go_grown).trans (hg1.mono (by first | omega | go_size))
  obtain ⟨hc1, hf1⟩ := bcell hg1
  have hs1 := hg1.size
  try simp only [World.size_alloc, World.size_setCell, World.size_drew] at hs1
  have hl1_0_0 : W1.cell? ⟨w.heap.size, 0, none⟩ = some (.pointer (some ⟨m, 0, none⟩)) := (hc1 _ _ (by first | omega | go_size)).trans (by first | (with_reducible assumption) | go_cell)
  have hz1_0_0 : W1.frozen? ⟨w.heap.size, 0, none⟩ = false := (hf1 _ _ (by first | omega | go_size)).trans (by first | (with_reducible assumption) | (go_simp; done) | (simp [*]; done))
  have hk1_0 : w.heap.size < W1.heap.size := by omega
  have hl1_1_0 : W1.cell? ⟨w.heap.size + 1, 0, none⟩ = some (.int .u64 at_) := (hc1 _ _ (by first | omega | go_size)).trans (by first | (with_reducible assumption) | go_cell)
  have hz1_1_0 : W1.frozen? ⟨w.heap.size + 1, 0, none⟩ = false := (hf1 _ _ (by first | omega | go_size)).trans (by first | (with_reducible assumption) | (go_simp; done) | (simp [*]; done))
  have hk1_1 : w.heap.size + 1 < W1.heap.size := by omega
  have hl1_2_0 : W1.cell? ⟨m, 0, none⟩ = some (.pointer (some ⟨m, 0, none⟩)) := (hc1 _ _ (by first | omega | go_size)).trans (by first | (with_reducible assumption) | go_cell)
  have hz1_2_0 : W1.frozen? ⟨m, 0, none⟩ = false := (hf1 _ _ (by first | omega | go_size)).trans (by first | (with_reducible assumption) | (go_simp; done) | (simp [*]; done))
  have hl1_2_1 : W1.cell? ⟨m, 1, none⟩ = some (.slice (some ⟨g1, 0, none⟩) 0 0) := (hc1 _ _ (by first | omega | go_size)).trans (by first | (with_reducible assumption) | go_cell)
  have hz1_2_1 : W1.frozen? ⟨m, 1, none⟩ = false := (hf1 _ _ (by first | omega | go_size)).trans (by first | (with_reducible assumption) | (go_simp; done) | (simp [*]; done))
  have hl1_2_2 : W1.cell? ⟨m, 2, none⟩ = some (.slice none 0 0) := (hc1 _ _ (by first | omega | go_size)).trans (by first | (with_reducible assumption) | go_cell)
  have hz1_2_2 : W1.frozen? ⟨m, 2, none⟩ = false := (hf1 _ _ (by first | omega | go_size)).trans (by first | (with_reducible assumption) | (go_simp; done) | (simp [*]; done))
  have hl1_2_3 : W1.cell? ⟨m, 3, none⟩ = some (.slice none 0 0) := (hc1 _ _ (by first | omega | go_size)).trans (by first | (with_reducible assumption) | go_cell)
  have hz1_2_3 : W1.frozen? ⟨m, 3, none⟩ = false := (hf1 _ _ (by first | omega | go_size)).trans (by first | (with_reducible assumption) | (go_simp; done) | (simp [*]; done))
  have hk1_2 : m < W1.heap.size := by omega
  clear hg1 hc1 hf1
  go_wp2_with fail
  clear y0 y1 y2 y3 hM h hS
  go_region
  go_wp2
  go_ret
  exact ⟨rfl, hb1.drew⟩

set_option maxRecDepth 100000 in
set_option maxHeartbeats 2000000 in
theorem has_none (m g1 : Nat) (at_ n : Int) (r : Rg) (w : World) (h : MemAt w m 0 g1 none none 0 0 0 0 r) :
    Calls Try.prog 47 #[.pointer (some ⟨m, 0, none⟩), .int .u64 at_, .int .u64 n] w (GmWord.Gives w.heap.size w (.bool false)) := by
  unfold GmWord.Gives
  have hself := h.self
  have HF := Lib.hid (find_none m g1 at_ n r w h)
  clear h
  go_enter Try.func47, Try.ntmps47
  have hq1 := fun W a n c => run_neq_slice_nil_any (P := Try.prog) W 24 5 a n c 0 0 Try.underlying24
  go_wp2_with fail
  refine (valid_any m _ hself).mono ?_
  rintro e W ⟨rfl, rfl⟩
  go_wp2_with fail
  refine HF.out.mono ?_
  rintro e W1 ⟨rfl, hb1⟩
  go_wp2_with fail
  go_ret
  exact ⟨rfl, by go_grown⟩

end Go.Proofs.Ytkejcdephnkkgaa.GmNew0

/- Lists of regions: light ones; a list of its own. -/
namespace Go.Proofs.Ytkejcdephnkkgaa.GmKit
open Go.RowKit Rw GmFind GmWord GmCheck GmCopyR
set_option linter.unusedVariables false
set_option linter.unusedSimpArgs false

/-- A Boolean; true only of a short list. -/
def LightP (k : Nat) (w : World) (e : Ending) (w' : World) : Prop := ∃ b : Bool, e = .returned (.bool b) ∧ (b = true → k ≤ 40) ∧ w = w'

set_option maxRecDepth 100000 in
set_option maxHeartbeats 4000000 in
theorem light_any (A : Option Addr) (k c : Nat) (most : Int) (r : Rg) (w : World) (hr : Raw r k) (h : Lst w w.heap.size A k r) :
    Calls Try.prog 8 #[.slice A k c, .int .u64 most] w (LightP k w) := by
  by_cases hk : k ≤ 40
  case neg =>
    have h1 : decide ((40 : Int) < (k : Int)) = true := decide_eq_true (by omega)
    go_enter Try.func8, Try.ntmps8
    go_wp2
    go_ret
    exact ⟨false, rfl, (fun h => by cases h), rfl⟩
  have HL := Lib.hid h
  have HR := Lib.hid hr
  clear h hr
  have h1 : decide ((40 : Int) < (k : Int)) = false := decide_eq_false (by omega)
  go_enter Try.func8, Try.ntmps8
  go_wp2_with fail
  go_loop [5, 6] (fun x y => ∃ (i : Nat) (s : Int), i ≤ k ∧ 0 ≤ s ∧ s ≤ i * 1073741824 ∧ x = .int .u64 s ∧ y = .int .i64 i) (fun x y => k - (intOf y).toNat)
  case atStart => exact ⟨0, 0, by omega, by omega, by omega, rfl, rfl⟩
  case round =>
    obtain ⟨i, s, hi, hs0, hs1, rfl, rfl⟩ := hrel
    by_cases hlt : i < k
    · obtain ⟨ad, hA, had, hc⟩ := HL.out (by omega)
      have c1 := elj hc hlt 1 (by decide) (by decide)
      rw [Rg.cell1] at c1
      obtain ⟨_, _, r3, r4⟩ := HR.out i hlt
      clear hc
      subst hA
      go_wp2
      have hm : 0 ≤ (if 1073741824 < r.len i then 1073741824 else r.len i) ∧ (if 1073741824 < r.len i then 1073741824 else r.len i) ≤ 1073741824 := by split <;> omega
      refine ⟨⟨i + 1, _, by omega, ?_, ?_, rfl, by go_num⟩, ?_⟩
      · omega
      · have : ((i + 1 : Nat) : Int) = (i : Int) + 1 := by omega
        rw [this]
        omega
      · simp [intOf]; omega
    · obtain rfl : i = k := by omega
      go_wp2
      go_ret
      exact ⟨_, rfl, (fun _ => hk), rfl⟩

/-- A list of regions of its own. -/
def RegsP (k : Nat) (r : Rg) (w : World) (e : Ending) (w' : World) : Prop := ∃ (A : Option Addr) (c : Nat), e = .returned (.slice A k c) ∧ Lst w' w'.heap.size A k r ∧ Below w.heap.size w w'

set_option maxRecDepth 100000 in
set_option maxHeartbeats 2000000 in
theorem regions_some (A : Option Addr) (k c : Nat) (r : Rg) (w : World) (hk0 : 0 < k) (hk : k ≤ 1000000) (h : Lst w w.heap.size A k r) : Calls Try.prog 10 #[.slice A k c] w (RegsP k r w) := by
  obtain ⟨i0, hi, hz0, hz1, hz2⟩ := rginfo
  obtain ⟨ad, rfl, had, hc⟩ := h hk0
  obtain ⟨cs, hcs⟩ : ∃ cs : List Value, (List.range (k * 2)).map r.cell = cs := ⟨_, rfl⟩
  have hlen : cs.length = k * 2 := by rw [← hcs]; simp
  have HCS := Lib.hid hcs
  have H0 := Lib.hid hi
  have H1 := Lib.hid hz0
  have H2 := Lib.hid hz1
  have H3 := Lib.hid hz2
  have E5 := Lib.hid (show ∀ v ∈ cs, v.oneCell' = true from by
    intro v hv
    rw [← HCS.out] at hv
    obtain ⟨q, _, rfl⟩ := List.mem_map.1 hv
    unfold Rg.cell
    split <;> rfl)
  have E6 := Lib.hid (show ∀ j v, cs[j]? = some v → (w.alloc (.cells #[] 75)).cell? (ad.add j) = some v from by
    intro j v hj
    rw [← HCS.out] at hj
    simp only [List.getElem?_map, Option.map_eq_some_iff] at hj
    obtain ⟨q, hq, rfl⟩ := hj
    obtain ⟨hq1, hq2⟩ := List.getElem?_eq_some_iff.1 hq
    simp at hq1 hq2
    subst hq2
    rw [World.cell?_alloc_lt _ _ _ (by rw [block_of_add]; exact had)]
    exact hc j (by omega))
  have hown := World.ownsRow_made (e := 75) (size := 2) w #[] 0 (Nat.le_refl _) (by unfold maxLen; omega) rfl
  have HO := Lib.hid hown
  have HL := Lib.hid hlen
  clear h hc hcs hi hz0 hz1 hz2 hown hlen
  go_enter Try.func10, Try.ntmps10
  go_wp2_with (at_builtin; refine wpList_append_own _ rfl _ _ 22 rfl w.heap.size 75 i0 (.agg #[.int .u64 0, .int .u64 0]) 2 16 Try.underlying22 H0.out H1.out H2.out H3.out rfl (by decide) (.slice (some ⟨w.heap.size, 0, none⟩) 0 0) 0 [] rfl HO.out ad k c cs rfl HL.out E6.out E5.out (by unfold maxLen; omega) (by omega) (by rw [World.size_alloc]; omega) ?_)
  intro v' W hown' hg' _
  have hown2 : W.ownsRow w.heap.size 75 2 v' k cs := by
    simpa using hown'
  obtain ⟨A', c', rfl⟩ : ∃ A c, v' = .slice A k c := by
    rcases hown2.2 with ⟨h1, h2⟩ | ⟨g, cap, cur, h1, _⟩
    · omega
    · exact ⟨_, _, h1⟩
  have hb : Below w.heap.size w W := ((Below.refl w.heap.size w).alloc (Nat.le_refl _) _).grown hg' (by rw [World.size_alloc]; omega) (fun b e => by cases e; exact Nat.le_refl _)
  have hL : Lst W W.heap.size A' k r := (IsRow.of_own hown2).congr fun j hj => by
    rw [← HCS.out]
    simp [List.getD_eq_getElem?_getD, hj]
  have HH := Lib.hid (And.intro hL hb)
  clear hown' hg' hown2 hL hb
  go_wp2_with fail
  go_ret
  exact ⟨A', c', rfl, HH.out.1, HH.out.2⟩

end Go.Proofs.Ytkejcdephnkkgaa.GmKit

/- A list of regions of its own: none. -/
namespace Go.Proofs.Ytkejcdephnkkgaa.GmKit
open Go.RowKit Rw GmFind GmWord GmCheck GmCopyR GmNew
set_option linter.unusedVariables false
set_option linter.unusedSimpArgs false

theorem own_nil {w : World} {base : Nat} {e : TypeId} {size n c : Nat} {A : Option Addr} {xs : List Value} (h : w.ownsRow base e size (.slice A n c) n xs) : A = none → c = 0 := by
  rintro rfl
  rcases h.2 with ⟨h1, _⟩ | ⟨g', cap, cur, h1, _⟩
  · injection h1
  · injection h1 with h1; cases h1

set_option maxRecDepth 100000 in
set_option maxHeartbeats 2000000 in
theorem regions_none (A : Option Addr) (c : Nat) (w : World) (hA : A = none → c = 0) : Calls Try.prog 10 #[.slice A 0 c] w fun e w' => ∃ (A' : Option Addr) (c' : Nat), e = .returned (.slice A' 0 c') ∧ (A' = none → c' = 0) ∧ Below w.heap.size w w' := by
  obtain ⟨i0, hi, hz0, hz1, hz2⟩ := rginfo
  have H0 := Lib.hid hi
  have H1 := Lib.hid hz0
  have H2 := Lib.hid hz1
  have H3 := Lib.hid hz2
  have HA := Lib.hid hA
  have HO := Lib.hid (World.ownsRow_made (base := w.heap.size) (e := 75) (size := 2) w #[] 0 (Nat.le_refl _) (by unfold maxLen; omega) rfl)
  clear hi hz0 hz1 hz2 hA
  go_enter Try.func10, Try.ntmps10
  go_wp2_with (at_builtin; refine wpList_append_opt rfl _ _ 22 rfl w.heap.size 75 i0 (.agg #[.int .u64 0, .int .u64 0]) 2 16 Try.underlying22 H0.out H1.out H2.out H3.out rfl (by decide) (.slice (some ⟨w.heap.size, 0, none⟩) 0 0) 0 [] rfl HO.out A 0 c [] rfl (fun h => ⟨rfl, HA.out h⟩) rfl (fun ad _ j u hj => by simp at hj) (by simp) (by unfold maxLen; omega) (by omega) (by rw [World.size_alloc]; omega) ?_)
  intro v' W hown' hg'
  have hown2 : W.ownsRow w.heap.size 75 2 v' 0 [] := by simpa using hown'
  obtain ⟨A', c', rfl⟩ := own_slice hown2
  have hb : Below w.heap.size w W := ((Below.refl w.heap.size w).alloc (Nat.le_refl _) _).grown hg' (by rw [World.size_alloc]; omega) (fun b e => by cases e; exact Nat.le_refl _)
  have HH := Lib.hid (And.intro (own_nil hown2) hb)
  clear hown' hg' hown2 hb
  go_wp2_with fail
  go_ret
  exact ⟨A', c', rfl, HH.out.1, HH.out.2⟩

end Go.Proofs.Ytkejcdephnkkgaa.GmKit

/- A memory of any list of regions, the program's and the document's: where it is refused; where a range lies. -/
namespace Go.Proofs.Ytkejcdephnkkgaa.GmTwin
open Go.RowKit Rw GmFind GmWord GmCheck GmCopyR GmNew GmRef GmRefM GmRefP
set_option linter.unusedVariables false
set_option linter.unusedSimpArgs false

/-- A list that a memory is made of. -/
def Good (k : Nat) (r : Rg) : Prop := k ≤ 16 ∧ ∀ i, i < k → Step r i
theorem first_bad (r : Rg) : ∀ n : Nat, (∀ i, i < n → Step r i) ∨ ∃ j, j < n ∧ (∀ i, i < j → Step r i) ∧ ¬ Step r j
  | 0 => .inl (fun i hi => by omega)
  | n + 1 => by
    rcases first_bad r n with h | ⟨j, h1, h2, h3⟩
    · by_cases hs : Step r n
      · refine .inl (fun i hi => ?_)
        by_cases e : i = n
        · subst e; exact hs
        · exact h i (by omega)
      · exact .inr ⟨n, by omega, h, hs⟩
    · exact .inr ⟨j, by omega, h2, h3⟩
theorem place_zero (r : Rg) (a n : Int) : (place r 0 a n).isSome = false := by
  cases h : (place r 0 a n).isSome
  · rfl
  · obtain ⟨i, hi, _⟩ := (place_inR (r := r) (k := 0) ⟨fun i hi => by omega, fun i hi => by omega, fun i hi => by omega, fun i hi => by omega⟩).1 h
    omega
theorem row_none {w : World} {B size : Nat} {A : Option Addr} {F : Nat → Value} : IsRow w B size A 0 F := fun h => absurd h (by decide)

theorem check_no (A : Option Addr) (k c : Nat) (r : Rg) (w : World) (hr : Raw r k) (hg : ¬ Good k r) (h : Lst w w.heap.size A k r) : Calls Try.prog 42 #[.slice A k c] w (GmWord.Gives w.heap.size w (.int .i64 2)) := by
  by_cases hk : k ≤ 16
  · rcases first_bad r k with h1 | ⟨j, hj, h1, h2⟩
    · exact absurd ⟨hk, h1⟩ hg
    · exact GmBad.check_bad A k c j r w hk hr hj h1 h2 h
  · exact GmBad.check_many A k c w (by omega)
theorem r_check_no (A : Option Addr) (k c : Nat) (r : Rg) (w : World) (hr : Raw r k) (hg : ¬ Good k r) (h : Lst w w.heap.size A k r) : Calls Try.prog 45 #[.slice A k c] w (GmWord.Gives w.heap.size w (.int .i64 2)) := by
  by_cases hk : k ≤ 16
  · exact r_check_any A k c r 2 w hk hr (fun h1 => absurd ⟨hk, h1⟩ hg) (fun _ => rfl) h
  · exact r_check_many A k c w (by omega)
theorem new_bad (A : Option Addr) (k c : Nat) (r : Rg) (w : World) (hr : Raw r k) (hg : ¬ Good k r) (h : Lst w w.heap.size A k r) : Calls Try.prog 9 #[.slice A k c] w (GmWord.Gives w.heap.size w (.tuple #[.pointer none, .int .i64 2])) :=
  GmNew0.new_no A k c w fun W e => by subst e; exact check_no A k c r w hr hg h
theorem r_new_bad (A : Option Addr) (k c : Nat) (r : Rg) (w : World) (hr : Raw r k) (hg : ¬ Good k r) (h : Lst w w.heap.size A k r) : Calls Try.prog 11 #[.slice A k c] w (GmWord.Gives w.heap.size w (.tuple #[.pointer none, .int .i64 2])) :=
  r_new_no A k c w fun W e => by subst e; exact r_check_no A k c r w hr hg h

/-- A list of its own, of any length. -/
theorem regions_any (A : Option Addr) (k c : Nat) (r : Rg) (w : World) (hk : k ≤ 1000000) (hA : A = none → c = 0) (h : Lst w w.heap.size A k r) :
    Calls Try.prog 10 #[.slice A k c] w fun e w' => ∃ (A' : Option Addr) (c' : Nat), e = .returned (.slice A' k c') ∧ Lst w' w'.heap.size A' k r ∧ Below w.heap.size w w' := by
  by_cases h0 : 0 < k
  · exact GmKit.regions_some A k c r w h0 hk h
  · obtain rfl : k = 0 := by omega
    exact (GmKit.regions_none A c w hA).mono fun e w' ⟨A', c', he, _, hb⟩ => ⟨A', c', he, row_none, hb⟩

/-- The program's memory, as far as Has goes. -/
structure PMem (w : World) (m k : Nat) (r : Rg) : Prop where
  self : w.cell? ⟨m, 0, none⟩ = some (.pointer (some ⟨m, 0, none⟩))
  lt : m < w.heap.size
  has : ∀ W, Below w.heap.size w W → ∀ a n : Int, 0 ≤ a ∧ a ≤ 18446744073709551615 → 0 ≤ n ∧ n ≤ 18446744073709551615 →
    Calls Try.prog 47 #[.pointer (some ⟨m, 0, none⟩), .int .u64 a, .int .u64 n] W (GmWord.Gives W.heap.size W (.bool (place (stR r) k a n).isSome))
/-- The document's. -/
structure QMem (w : World) (m k : Nat) (r : Rg) : Prop where
  has : ∀ W, Below w.heap.size w W → ∀ a n : Int, 0 ≤ a ∧ a ≤ 18446744073709551615 → 0 ≤ n ∧ n ≤ 18446744073709551615 →
    Calls Try.prog 48 #[.pointer (some ⟨m, 0, none⟩), .int .u64 a, .int .u64 n] W (GmWord.Gives W.heap.size W (.bool (place (stR r) k a n).isSome))
theorem fits_steps {r : Rg} {k n3 : Nat} (hr : Raw r k) (h3 : (n3 : Int) = sum r k) : (stR r).Fits k n3 := fun i hi => by
  have h1 := sum_lo hr i (by omega)
  have h2 := sum_up hr (Nat.le_refl k) hi
  exact ⟨h1, by show sum r i + r.len i ≤ (n3 : Int); omega⟩
theorem sum_most {r : Rg} {k : Nat} (hs : ∀ i, i < k → Step r i) : sum r k ≤ 1048576 := by
  cases k with
  | zero => show (0 : Int) ≤ _; decide
  | succ i => exact (hs i (by omega)).2.1
theorem new_good (A : Option Addr) (k c : Nat) (r : Rg) (w : World) (hr : Raw r k) (hg : Good k r) (h : Lst w w.heap.size A k r) :
    Calls Try.prog 9 #[.slice A k c] w fun e w' => ∃ m, e = .returned (.tuple #[.pointer (some ⟨m, 0, none⟩), .int .i64 0]) ∧ PMem w' m k r ∧ Below w.heap.size w w' := by
  by_cases h0 : 0 < k
  · refine (new_ok A k c r w h0 hg.1 hr hg.2 h).mono ?_
    rintro e w' ⟨m, g1, b3, c2, n3, c3, A2, he, hM, h3, hc, _, _, _, _, _, _, hb⟩
    have hm := sum_most hg.2
    exact ⟨m, he, ⟨hM.self, hM.lt, fun W hW a n ha hn => has_any k m g1 b3 a n (stR r) W (by have := hg.1; omega) (in_steps hr hg.2) (fits_steps hr h3) hc (by omega) (hM.below hW) ha.1 ha.2 hn.1 hn.2⟩, hb⟩
  · obtain rfl : k = 0 := by omega
    refine (GmNew0.new_none A c r w).mono ?_
    rintro e w' ⟨m, g1, he, hM, _, _, _, hb⟩
    exact ⟨m, he, ⟨hM.self, hM.lt, fun W hW a n ha hn => by rw [place_zero]; exact GmNew0.has_none m g1 a n r W (hM.below hW)⟩, hb⟩
theorem r_new_good (A : Option Addr) (k c : Nat) (r : Rg) (w : World) (hr : Raw r k) (hg : Good k r) (hA : A = none → c = 0) (h : Lst w w.heap.size A k r) :
    Calls Try.prog 11 #[.slice A k c] w fun e w' => ∃ m, e = .returned (.tuple #[.pointer (some ⟨m, 0, none⟩), .int .i64 0]) ∧ QMem w' m k r ∧ Below w.heap.size w w' := by
  by_cases h0 : 0 < k
  · refine (r_new_ok A k c r w h0 hg.1 hr hg.2 h).mono ?_
    rintro e w' ⟨m, c2, A2, x, ps, he, hM, hP, hl, _, ho, hbk, hb⟩
    have hR := RM.of_new hg.1 hr hg.2 hM hP hl ho hbk
    exact ⟨m, he, ⟨fun W hW a n ha hn => (hR.below hW).has ha hn⟩, hb⟩
  · obtain rfl : k = 0 := by omega
    refine (r_new_none A c r w hA).mono ?_
    rintro e w' ⟨m, c2, A2, x, ps, he, hM, hP, hl, _, ho, hbk, hb⟩
    have hR := RM.of_new (by decide) hr hg.2 hM hP hl ho hbk
    exact ⟨m, he, ⟨fun W hW a n ha hn => (hR.below hW).has ha hn⟩, hb⟩

end Go.Proofs.Ytkejcdephnkkgaa.GmTwin

/- Two memories side by side: a write in one keeps the other. -/
namespace Go.Proofs.Ytkejcdephnkkgaa.GmTwo
open Go.RowKit Rw Le GmFind GmWord GmCheck GmNew GmCopyR GmRef GmRefN GmRefM GmRefP
set_option linter.unusedVariables false
set_option linter.unusedSimpArgs false

theorem row_kept {W W' : World} {s n b : Nat} {A : Option Addr} {F : Nat → Value} (h : IsRow W W.heap.size s A n F) (hg : W.grownBy W' (some b)) (hA : ∀ ad, A = some ad → ad.block ≠ b) : IsRow W' W'.heap.size s A n F := fun hn => by
  obtain ⟨ad, e, hlt, hc⟩ := h hn
  refine ⟨ad, e, Nat.lt_of_lt_of_le hlt hg.size, fun j hj => (World.cell?_of_block (hg.block _ (by rw [block_of_add]; exact hlt) (fun e' => ?_))).trans (hc j hj)⟩
  rw [block_of_add] at e'
  injection e' with e'
  exact hA ad e e'
theorem frozen_kept {W W' : World} {b : Nat} (hg : W.grownBy W' (some b)) {q o : Nat} (hq : q < W.heap.size) (hne : q ≠ b) : W'.frozen? ⟨q, o, none⟩ = W.frozen? ⟨q, o, none⟩ := by
  have := hg.block q hq (fun e => hne (by injection e))
  simp only [World.frozen?, this]
theorem cell_kept {W W' : World} {b : Nat} (hg : W.grownBy W' (some b)) {q o : Nat} (hq : q < W.heap.size) (hne : q ≠ b) : W'.cell? ⟨q, o, none⟩ = W.cell? ⟨q, o, none⟩ :=
  World.cell?_of_block (hg.block q hq (fun e => hne (by injection e)))
/-- What another memory's write leaves of the program's. -/
theorem mem_kept {W W' : World} {m k g1 b : Nat} {A2 A3 : Option Addr} {c1 c2 n3 c3 : Nat} {r : Rg} (h : MemAt W m k g1 A2 A3 c1 c2 n3 c3 r) (hg : W.grownBy W' (some b)) (h1 : m ≠ b) (h2 : g1 ≠ b) (h3 : ∀ ad, A2 = some ad → ad.block ≠ b) : MemAt W' m k g1 A2 A3 c1 c2 n3 c3 r :=
  ⟨(cell_kept hg h.lt h1).trans h.self, (cell_kept hg h.lt h1).trans h.regs, (cell_kept hg h.lt h1).trans h.sts, (cell_kept hg h.lt h1).trans h.bys, Nat.lt_of_lt_of_le h.lt hg.size, Nat.lt_of_lt_of_le h.lt1 hg.size,
    fun j hj => (cell_kept hg h.lt1 h2).trans (h.row1 j hj), fun q o _ he => by
      rcases he with rfl | rfl
      · exact (frozen_kept hg h.lt h1).trans (h.fz _ o h.lt (.inl rfl))
      · exact (frozen_kept hg h.lt1 h2).trans (h.fz _ o h.lt1 (.inr rfl)), row_kept h.row2 hg h3⟩
/-- And of the document's. -/
theorem rm_kept {W W' : World} {mm k c b : Nat} {A : Option Addr} {r : Rg} {x : Value} {ps : List (Nat × Nat)} {g : Nat → Int} (h : RM W mm k c A r x ps g) (hg : W.grownBy W' (some b)) (h1 : mm ≠ b) (h2 : x.ownBlock ≠ some b) (h3 : ∀ ad, A = some ad → ad.block ≠ b) (h4 : ∀ p ∈ ps, p.1 ≠ b) : RM W' mm k c A r x ps g := by
  obtain ⟨B, ho⟩ := h.own
  exact ⟨h.k1, h.raw, h.rin, h.len1, h.st0, kept_row h.two hg (fun e => h1 (by injection e with e; exact e.symm)), row_kept h.lst hg h3, ⟨B, ho.kept hg (.inr h2)⟩, h.len,
    fun i p hp => kept_row (h.row i p hp) hg (fun e => h4 p (List.mem_of_getElem? hp) (by injection e with e; exact e.symm)), h.nd, h.ap, h.up⟩
/-- Where two memories of the same regions lie, the program's (older) and the document's. -/
structure Nums where
  B : Nat
  m : Nat
  g1 : Nat
  b3 : Nat
  c1 : Nat
  c2 : Nat
  n3 : Nat
  c3 : Nat
  mm : Nat
  c : Nat
  N0 : Nat
  k : Nat
  A2 : Option Addr
  A : Option Addr
  x : Value
  ps : List (Nat × Nat)
  r : Rg
structure Ok (P : Nums) : Prop where
  B0 : P.B ≤ P.b3
  B1 : P.B ≤ P.N0
  k16 : P.k ≤ 16
  inr : P.r.In P.k
  fits : P.r.Fits P.k P.n3
  n3 : P.n3 ≤ P.c3
  n3m : P.n3 ≤ 1048576
  m0 : P.m < P.N0
  g0 : P.g1 < P.N0
  b0 : P.b3 < P.N0
  a0 : ∀ ad, P.A2 = some ad → ad.block < P.N0
  mb : P.m ≠ P.b3
  gb : P.g1 ≠ P.b3
  ab : ∀ ad, P.A2 = some ad → ad.block ≠ P.b3
  mm0 : P.N0 ≤ P.mm
  x0 : ∀ b, P.x.ownBlock = some b → P.N0 ≤ b
  l0 : ∀ ad, P.A = some ad → P.N0 ≤ ad.block
  p0 : ∀ p ∈ P.ps, P.N0 ≤ p.1
/-- The program's bytes, and the document's. -/
structure Two (P : Nums) (W : World) (gp gd : Nat → Int) : Prop where
  mem : MemAt W P.m P.k P.g1 P.A2 (some ⟨P.b3, 0, none⟩) P.c1 P.c2 P.n3 P.c3 P.r
  row : W.rowIs P.b3 5 P.c3 (fun j => .int .u8 (gp j))
  rm : RM W P.mm P.k P.c P.A P.r P.x P.ps gd
  bp : ∀ j, 0 ≤ gp j ∧ gp j ≤ 255
  bd : ∀ j, 0 ≤ gd j ∧ gd j ≤ 255
section
variable {P : Nums} {W W' : World} {gp gd gp' gd' : Nat → Int}
theorem Two.below (h : Two P W gp gd) (hb : Below W.heap.size W W') : Two P W' gp gd := ⟨h.mem.below hb, h.row.of_block (hb.block _ h.row.lt), h.rm.below hb, h.bp, h.bd⟩
theorem Two.pwrote (h : Two P W gp gd) (o : Ok P) (hg : W.grownBy W' (some P.b3)) (hr : W'.rowIs P.b3 5 P.c3 (fun j => .int .u8 (gp' j))) (hb : ∀ j, 0 ≤ gp' j ∧ gp' j ≤ 255) : Two P W' gp' gd :=
  have b0 := o.b0
  ⟨mem_kept h.mem hg o.mb o.gb o.ab, hr, rm_kept h.rm hg (fun e => by have := o.mm0; omega) (fun e => by have := o.x0 _ e; omega) (fun ad e e' => by have := o.l0 ad e; omega) (fun p hp e => by have := o.p0 p hp; omega), hb, h.bd⟩
theorem Two.dwrote (h : Two P W gp gd) (o : Ok P) {p : Nat × Nat} (hp : p ∈ P.ps) (hg : W.grownBy W' (some p.1)) (hr : RM W' P.mm P.k P.c P.A P.r P.x P.ps gd') (hb : ∀ j, 0 ≤ gd' j ∧ gd' j ≤ 255) : Two P W' gp gd' :=
  have p0 := o.p0 p hp
  ⟨mem_kept h.mem hg (fun e => by have := o.m0; omega) (fun e => by have := o.g0; omega) (fun ad e e' => by have := o.a0 ad e; omega), kept_row h.row hg (fun e => by injection e with e; have := o.b0; omega), hr, h.bp, hb⟩
end
/-- Two new ones. -/
theorem two_new {w1 W1 w2 W2 : World} {B k m g1 b3 c2 n3 c3 mm cc : Nat} {A2 A : Option Addr} {r : Rg} {x : Value} {ps : List (Nat × Nat)} (hB : B ≤ m) (hk : k ≤ 16) (hr : Raw r k) (hs : ∀ i, i < k → Step r i)
    (hM : MemAt W1 m k g1 A2 (some ⟨b3, 0, none⟩) k c2 n3 c3 (stR r)) (h3 : (n3 : Int) = sum r k) (hc : n3 ≤ c3) (hrow : W1.rowIs b3 5 c3 (fun _ => .int .u8 0)) (q1 : g1 < m) (q2 : m < b3) (q3 : ∀ a, A2 = some a → m < a.block ∧ a.block < b3)
    (hb1 : Below W1.heap.size W1 w2) (hMM : MM W2 mm (.slice A k cc) x) (hP : Ps W2 mm mm x ps) (hl : ps.map (·.2) = lens k r) (hmm : w2.heap.size ≤ mm) (ho : W2.ownsRow w2.heap.size 75 2 (.slice A k cc) k (rowR k r)) (hbk : ∀ b, (Value.slice A k cc).ownBlock = some b → b < mm) (hb2 : Below w2.heap.size w2 W2) :
    ∃ P : Nums, (P.B = B ∧ P.m = m ∧ P.mm = mm ∧ P.k = k ∧ P.r = stR r ∧ P.n3 = n3) ∧ Ok P ∧ Two P W2 (fun _ => 0) (fun _ => 0) := by
  have h0 : ∀ j : Nat, 0 ≤ (fun _ : Nat => (0 : Int)) j ∧ (fun _ : Nat => (0 : Int)) j ≤ 255 := fun _ => ⟨Int.le_refl 0, by show (0 : Int) ≤ 255; decide⟩
  have hsm := GmTwin.sum_most hs
  have hlt := hrow.lt
  have hsz := hb1.size
  refine ⟨⟨B, m, g1, b3, k, c2, n3, c3, mm, cc, w2.heap.size, k, A2, A, x, ps, stR r⟩, ⟨rfl, rfl, rfl, rfl, rfl, rfl⟩, ⟨by show B ≤ b3; omega, by show B ≤ w2.heap.size; omega, hk, in_steps hr hs, GmTwin.fits_steps hr h3, hc, by show n3 ≤ 1048576; omega, by show m < w2.heap.size; omega, by show g1 < w2.heap.size; omega, by show b3 < w2.heap.size; omega, fun ad e => ?_, by show m ≠ b3; omega, by show g1 ≠ b3; omega, fun ad e => ?_, hmm, fun b e => ?_, fun ad e => ?_, fun p hp => ?_⟩, ⟨?_, ?_, RM.of_new hk hr hs hMM hP hl ho hbk, h0, h0⟩⟩
  · have := (q3 ad e).2; show ad.block < w2.heap.size; omega
  · have := (q3 ad e).2; show ad.block ≠ b3; omega
  · show w2.heap.size ≤ b
    have := (hP.own.lt b e).1
    omega
  · show w2.heap.size ≤ ad.block
    have e : A = some ad := e
    rcases ho.2 with ⟨h1, h2⟩ | ⟨G, cap, cur, he, _⟩
    · rw [e] at h1; cases h1
    · rw [e] at he
      injection he with e1 _ _
      injection e1 with e1
      subst e1
      exact (ho.lt G (by rw [e]; rfl)).1
  · show w2.heap.size ≤ p.1
    have := (hP.row p hp).1
    omega
  · exact (hM.below hb1).below (hb2.mono (Nat.le_refl _))
  · exact (hrow.of_block (hb1.block _ hlt)).of_block (hb2.block _ (by omega))
end Go.Proofs.Ytkejcdephnkkgaa.GmTwo

/- Two memories side by side: Load and Store of each. -/
namespace Go.Proofs.Ytkejcdephnkkgaa.GmTwo
open Go.RowKit Rw Le GmFind GmWord GmCheck GmNew GmLoad GmRef GmRefN GmRefM GmRefP
set_option linter.unusedVariables false
set_option linter.unusedSimpArgs false

/-- What a call that writes may have turned: one block of the memory that it writes. -/
def Wr (P : Nums) (W W' : World) : Prop := ∃ b, (b = P.b3 ∨ ∃ p ∈ P.ps, p.1 = b) ∧ W.grownBy W' (some b)
theorem Wr.none_ {P : Nums} {W W' : World} (h : Below W.heap.size W W') : Wr P W W' := ⟨P.b3, .inl rfl, only_of_below h _⟩
def Ok8 (nb : Int) : Prop := nb = 1 ∨ nb = 2 ∨ nb = 4 ∨ nb = 8
/-- What Load answers. -/
def LoadIs (P : Nums) (g : Nat → Int) (a nb v e : Int) : Prop :=
  (¬ Ok8 nb ∧ v = 0 ∧ e = 2) ∨ (Ok8 nb ∧ place P.r P.k a nb = none ∧ v = 0 ∧ e = 5) ∨ (Ok8 nb ∧ ∃ o, place P.r P.k a nb = some o ∧ v = wordI (fun j => g (o + j)) nb.toNat ∧ e = 0)
theorem load_some (P : Nums) (g : Nat → Int) (a nb : Int) : ∃ v e, LoadIs P g a nb v e := by
  by_cases h : Ok8 nb
  · cases hp : place P.r P.k a nb with
    | none => exact ⟨_, _, .inr (.inl ⟨h, hp, rfl, rfl⟩)⟩
    | some o => exact ⟨_, _, .inr (.inr ⟨h, o, hp, rfl, rfl⟩)⟩
  · exact ⟨_, _, .inl ⟨h, rfl, rfl⟩⟩
section
variable {P : Nums} {gp gd : Nat → Int}
theorem Two.by_ {W : World} (h : Two P W gp gd) (o : Ok P) : By W P.b3 P.n3 gp := fun j hj => h.row.cell (i := j) (by have := o.n3; omega)
end

/-- What Store leaves, and answers. -/
def StoreIs (P : Nums) (g : Nat → Int) (a nb v : Int) (g' : Nat → Int) (e : Int) : Prop :=
  (¬ Ok8 nb ∧ g' = g ∧ e = 2) ∨ (Ok8 nb ∧ place P.r P.k a nb = none ∧ g' = g ∧ e = 5) ∨ (Ok8 nb ∧ ∃ o, place P.r P.k a nb = some o ∧ g' = putG g o nb.toNat (byteI v) ∧ e = 0)
theorem store_some (P : Nums) (g : Nat → Int) (a nb v : Int) : ∃ g' e, StoreIs P g a nb v g' e := by
  by_cases h : Ok8 nb
  · cases hp : place P.r P.k a nb with
    | none => exact ⟨_, _, .inr (.inl ⟨h, hp, rfl, rfl⟩)⟩
    | some o => exact ⟨_, _, .inr (.inr ⟨h, o, hp, rfl, rfl⟩)⟩
  · exact ⟨_, _, .inl ⟨h, rfl, rfl⟩⟩
theorem put_lo {g gb : Nat → Int} {o n : Nat} (h : ∀ j, 0 ≤ g j ∧ g j ≤ 255) (hb : ∀ j, 0 ≤ gb j ∧ gb j ≤ 255) : ∀ j, 0 ≤ putG g o n gb j ∧ putG g o n gb j ≤ 255 := fun j => by
  unfold putG
  split
  · exact hb _
  · exact h _
section
variable {P : Nums} {gp gd : Nat → Int}
end
end Go.Proofs.Ytkejcdephnkkgaa.GmTwo

/- Two memories side by side: Read, Write and Has of each. -/
namespace Go.Proofs.Ytkejcdephnkkgaa.GmTwo
open Go.RowKit Rw Le GmFind GmWord GmCheck GmNew GmLoad GmRead GmWrite GmRef GmRefN GmRefM GmRefP SgConcat
set_option linter.unusedVariables false
set_option linter.unusedSimpArgs false

/-- What Read answers. -/
def ReadIs (P : Nums) (g : Nat → Int) (a n : Int) (N : Nat) (G : Nat → Int) (e : Int) : Prop :=
  (n < 0 ∧ N = 0 ∧ e = 2) ∨ (n = 0 ∧ N = 0 ∧ e = 0) ∨ (1 ≤ n ∧ place P.r P.k a n = none ∧ N = 0 ∧ e = 5) ∨ (1 ≤ n ∧ ∃ o, place P.r P.k a n = some o ∧ n = N ∧ G = (fun j => g (o + j)) ∧ e = 0)
theorem read_some (P : Nums) (g : Nat → Int) (a n : Int) : ∃ N G e, ReadIs P g a n N G e := by
  by_cases h : n < 0
  · exact ⟨_, g, _, .inl ⟨h, rfl, rfl⟩⟩
  · by_cases h0 : n = 0
    · exact ⟨_, g, _, .inr (.inl ⟨h0, rfl, rfl⟩)⟩
    · cases hp : place P.r P.k a n with
      | none => exact ⟨_, g, _, .inr (.inr (.inl ⟨by omega, hp, rfl, rfl⟩))⟩
      | some o => exact ⟨n.toNat, _, _, .inr (.inr (.inr ⟨by omega, o, hp, by omega, rfl, rfl⟩))⟩
def RdP (N : Nat) (G : Nat → Int) (e : Int) (W : World) (x : Ending) (W' : World) : Prop :=
  ∃ (A : Option Addr) (c : Nat), x = .returned (.tuple #[.slice A N c, .int .i64 e]) ∧ IsRow W' W'.heap.size 1 A N (fun j => .int .u8 (G j)) ∧ Below W.heap.size W W'
theorem none_row {w : World} {B size : Nat} {A : Option Addr} {F : Nat → Value} : IsRow w B size A 0 F := fun h => absurd h (by decide)
section
variable {P : Nums} {gp gd : Nat → Int}
theorem p_read (o : Ok P) (a n : Int) (N : Nat) (G : Nat → Int) (e : Int) (W : World) (h : Two P W gp gd) (ha : 0 ≤ a ∧ a ≤ 18446744073709551615) (hn : n ≤ 9223372036854775807) (hl : ReadIs P gp a n N G e) :
    Calls Try.prog 46 #[.pointer (some ⟨P.m, 0, none⟩), .int .u64 a, .int .i64 n] W (RdP N G e W) := by
  rcases hl with ⟨h1, rfl, rfl⟩ | ⟨rfl, rfl, rfl⟩ | ⟨h1, hp, rfl, rfl⟩ | ⟨h1, q, hp, rfl, rfl, rfl⟩
  · exact (read_neg P.m a n W h.mem.self h1).mono fun x W' ⟨he, hb⟩ => ⟨_, _, he, none_row, hb⟩
  · exact (read_zero P.m a W h.mem.self).mono fun x W' ⟨he, hb⟩ => ⟨_, _, he, none_row, hb⟩
  · exact (read_out P.k P.m P.g1 P.b3 a n P.r W (by have := o.k16; omega) o.inr o.fits o.n3 (by have := o.n3m; omega) h.mem ha.1 ha.2 h1 hn hp).mono fun x W' ⟨he, hb⟩ => ⟨_, _, he, none_row, hb⟩
  · have := read_yes P.k P.m P.g1 P.b3 a N P.r gp W (by have := o.k16; omega) o.inr o.fits o.n3 (by have := o.n3m; omega) h.mem (h.by_ o) h.row.lt ha.1 ha.2 h1 hn hp
    rw [Int.toNat_natCast] at this
    exact this.mono fun x W' ⟨b, he, _, hr, hb⟩ => ⟨_, _, he, IsRow.of_rowIs (c := N) hr (by omega), hb⟩
theorem d_read (o : Ok P) (a n : Int) (N : Nat) (G : Nat → Int) (e : Int) (W : World) (h : Two P W gp gd) (ha : 0 ≤ a ∧ a ≤ 18446744073709551615) (hn : n ≤ 9223372036854775807) (hl : ReadIs P gd a n N G e) :
    Calls Try.prog 55 #[.pointer (some ⟨P.mm, 0, none⟩), .int .u64 a, .int .i64 n] W (RdP N G e W) := by
  rcases hl with ⟨h1, rfl, rfl⟩ | ⟨rfl, rfl, rfl⟩ | ⟨h1, hp, rfl, rfl⟩ | ⟨h1, q, hp, rfl, rfl, rfl⟩
  · exact (r_read_neg _ a n W h1).mono fun x W' ⟨he, hb⟩ => ⟨_, _, he, none_row, hb⟩
  · exact (r_read_zero _ a W).mono fun x W' ⟨he, hb⟩ => ⟨_, _, he, none_row, hb⟩
  · exact (r_read_no a n W h.rm ha (by omega) hp).mono fun x W' ⟨he, hb⟩ => ⟨_, _, he, none_row, hb⟩
  · have hf := place_fits o.fits hp
    have hm := o.n3m
    exact (r_read_ok a N q W h.rm ha (by omega) hp).mono fun x W' ⟨A, c, he, hr, hb⟩ => ⟨_, _, he, (IsRow.of_own hr).congr fun j hj => by
      have hj' : j < N := by omega
      simp [u8s, bytesAt, List.getD_eq_getElem?_getD, hj'], hb⟩
theorem p_has (o : Ok P) (a n : Int) (W : World) (h : Two P W gp gd) (ha : 0 ≤ a ∧ a ≤ 18446744073709551615) (hn : 0 ≤ n ∧ n ≤ 18446744073709551615) :
    Calls Try.prog 47 #[.pointer (some ⟨P.m, 0, none⟩), .int .u64 a, .int .u64 n] W (GmWord.Gives W.heap.size W (.bool (place P.r P.k a n).isSome)) :=
  has_any P.k P.m P.g1 P.b3 a n P.r W (by have := o.k16; omega) o.inr o.fits o.n3 (by have := o.n3m; omega) h.mem ha.1 ha.2 hn.1 hn.2
theorem d_has (a n : Int) (W : World) (h : Two P W gp gd) (ha : 0 ≤ a ∧ a ≤ 18446744073709551615) (hn : 0 ≤ n ∧ n ≤ 18446744073709551615) :
    Calls Try.prog 48 #[.pointer (some ⟨P.mm, 0, none⟩), .int .u64 a, .int .u64 n] W (GmWord.Gives W.heap.size W (.bool (place P.r P.k a n).isSome)) := h.rm.has ha hn
end

/-- What Write leaves, and answers. -/
def WriteIs (P : Nums) (g : Nat → Int) (a : Int) (N : Nat) (gb g' : Nat → Int) (e : Int) : Prop :=
  (N = 0 ∧ g' = g ∧ e = 0) ∨ (1 ≤ N ∧ place P.r P.k a N = none ∧ g' = g ∧ e = 5) ∨ (1 ≤ N ∧ ∃ o, place P.r P.k a N = some o ∧ g' = putG g o N gb ∧ e = 0)
theorem write_some (P : Nums) (g : Nat → Int) (a : Int) (N : Nat) (gb : Nat → Int) : ∃ g' e, WriteIs P g a N gb g' e := by
  by_cases h : N = 0
  · exact ⟨_, _, .inl ⟨h, rfl, rfl⟩⟩
  · cases hp : place P.r P.k a N with
    | none => exact ⟨_, _, .inr (.inl ⟨by omega, hp, rfl, rfl⟩)⟩
    | some o => exact ⟨_, _, .inr (.inr ⟨by omega, o, hp, rfl, rfl⟩)⟩
section
variable {P : Nums} {gp gd : Nat → Int}
theorem p_write (o : Ok P) (a : Int) (A : Option Addr) (N c : Nat) (gb g' : Nat → Int) (e : Int) (W : World) (h : Two P W gp gd) (ha : 0 ≤ a ∧ a ≤ 18446744073709551615) (hN : N ≤ 100000) (hb : ∀ j, 0 ≤ gb j ∧ gb j ≤ 255) (hs : IsRow W W.heap.size 1 A N (fun j => .int .u8 (gb j))) (hl : WriteIs P gp a N gb g' e) :
    Calls Try.prog 52 #[.pointer (some ⟨P.m, 0, none⟩), .int .u64 a, .slice A N c] W fun x W' => x = .returned (.int .i64 e) ∧ Two P W' g' gd ∧ Wr P W W' := by
  rcases hl with ⟨rfl, rfl, rfl⟩ | ⟨hn, hp, rfl, rfl⟩ | ⟨hn, q, hp, rfl, rfl⟩
  · exact (write_zero P.m c A a W h.mem.self).mono fun x W' ⟨he, hb⟩ => ⟨he, h.below hb, Wr.none_ hb⟩
  · exact (write_out P.k P.m P.g1 P.b3 N c A a P.r W (by have := o.k16; omega) o.inr o.fits o.n3 (by have := o.n3m; omega) h.mem ha.1 ha.2 hn (by omega) hp).mono fun x W' ⟨he, hb⟩ => ⟨he, h.below hb, Wr.none_ hb⟩
  · refine (write_yes P.k P.m P.g1 P.b3 N c P.c3 q 5 A a P.r _ gb W (by have := o.k16; omega) o.inr o.fits o.n3 (by have := o.n3m; omega) h.mem o.n3 h.row hs ha.1 ha.2 hn (by omega) hp).mono fun x W' ⟨he, hr, hg⟩ => ⟨he, h.pwrote o hg (hr.congr fun j hj => ?_) (put_lo h.bp hb), ⟨_, .inl rfl, hg⟩⟩
    unfold wrF putG
    split <;> rfl
theorem d_write (o : Ok P) (a : Int) (A : Option Addr) (N c : Nat) (gb g' : Nat → Int) (e : Int) (W : World) (h : Two P W gp gd) (ha : 0 ≤ a ∧ a ≤ 18446744073709551615) (hN : N ≤ 100000) (hb : ∀ j, 0 ≤ gb j ∧ gb j ≤ 255) (hs : IsRow W W.heap.size 1 A N (fun j => .int .u8 (gb j))) (hl : WriteIs P gd a N gb g' e) :
    Calls Try.prog 53 #[.pointer (some ⟨P.mm, 0, none⟩), .int .u64 a, .slice A N c] W fun x W' => x = .returned (.int .i64 e) ∧ Two P W' gp g' ∧ Wr P W W' := by
  rcases hl with ⟨rfl, rfl, rfl⟩ | ⟨hn, hp, rfl, rfl⟩ | ⟨hn, q, hp, rfl, rfl⟩
  · exact (r_write_zero _ a A c W).mono fun x W' ⟨he, hb⟩ => ⟨he, h.below hb, Wr.none_ hb⟩
  · exact (r_write_no a N c A W h.rm ha (by omega) hp).mono fun x W' ⟨he, hb⟩ => ⟨he, h.below hb, Wr.none_ hb⟩
  · exact (r_write_ok a N q c A gb W h.rm ha (by omega) hp hs).mono fun x W' ⟨he, hr, p, hpp, hg⟩ => ⟨he, h.dwrote o hpp hg hr (put_lo h.bd hb), ⟨_, .inr ⟨p, hpp, rfl⟩, hg⟩⟩
end
end Go.Proofs.Ytkejcdephnkkgaa.GmTwo

/- A memory without regions, and what a memory's Regions are. -/
namespace Go.Proofs.Ytkejcdephnkkgaa.GmZero
open Go.RowKit Rw GmFind GmWord GmCheck GmCopyR GmNew GmNew0
set_option linter.unusedVariables false
set_option linter.unusedSimpArgs false

abbrev Mem0 (w : World) (m g1 : Nat) (r : Rg) : Prop := MemAt w m 0 g1 none none 0 0 0 0 r
set_option maxRecDepth 100000 in
set_option maxHeartbeats 4000000 in
theorem read0 (m g1 : Nat) (at_ n : Int) (r : Rg) (w : World) (h : Mem0 w m g1 r) (hn0 : 1 ≤ n) (hn1 : n ≤ 9223372036854775807) :
    Calls Try.prog 46 #[.pointer (some ⟨m, 0, none⟩), .int .u64 at_, .int .i64 n] w (GmWord.Gives w.heap.size w (.tuple #[.slice none 0 0, .int .i64 5])) := by
  unfold GmWord.Gives
  have hself := h.self
  have HF := Lib.hid (find_none m g1 at_ n r w h)
  clear h
  go_enter Try.func46, Try.ntmps46
  have hq1 := fun W a n c => Lib.run_eql_slice_nil (P := Try.prog) W 24 5 a n c 0 0 Try.underlying24
  go_wp2_with fail
  refine (valid_any m _ hself).mono ?_
  rintro e W ⟨rfl, rfl⟩
  go_wp2_with fail
  refine HF.out.mono ?_
  rintro e W1 ⟨rfl, hb1⟩
  go_wp2_with fail
  go_returns
  exact ⟨rfl, by go_grown⟩
set_option maxRecDepth 100000 in
set_option maxHeartbeats 4000000 in
theorem write0 (m g1 N c : Nat) (A : Option Addr) (at_ : Int) (r : Rg) (w : World) (h : Mem0 w m g1 r) (hn0 : 1 ≤ N) (hn1 : N ≤ 9223372036854775807) :
    Calls Try.prog 52 #[.pointer (some ⟨m, 0, none⟩), .int .u64 at_, .slice A N c] w (GmWord.Gives w.heap.size w (.int .i64 5)) := by
  unfold GmWord.Gives
  have hself := h.self
  have HF := Lib.hid (find_none m g1 at_ N r w h)
  clear h
  go_enter Try.func52, Try.ntmps52
  have hq1 := fun W a n c => Lib.run_eql_slice_nil (P := Try.prog) W 24 5 a n c 0 0 Try.underlying24
  go_wp2_with fail
  refine (valid_any m _ hself).mono ?_
  rintro e W ⟨rfl, rfl⟩
  go_wp2_with fail
  refine HF.out.mono ?_
  rintro e W1 ⟨rfl, hb1⟩
  go_wp2_with fail
  go_ret
  exact ⟨rfl, by go_grown⟩

/-- A list of regions of its own. -/
def RgP (k : Nat) (r : Rg) (w : World) (e : Ending) (w' : World) : Prop := ∃ (A : Option Addr) (c : Nat), e = .returned (.slice A k c) ∧ Lst w' w'.heap.size A k r ∧ Below w.heap.size w w'
end Go.Proofs.Ytkejcdephnkkgaa.GmZero

/- The document's own memory: Image. -/
namespace Go.Proofs.Ytkejcdephnkkgaa.GmRefP
open Go.RowKit Rw GmFind GmWord GmCheck GmNew GmCopyR GmRef GmRefN GmRefM SgConcat
set_option linter.unusedVariables false
set_option linter.unusedSimpArgs false

theorem bytesAt_add (g : Nat → Int) (o n m : Nat) : bytesAt g o (n + m) = bytesAt g o n ++ bytesAt g (o + n) m := by
  unfold bytesAt
  rw [List.range_add, List.map_append, List.map_map]
  congr 1
  refine List.map_congr_left fun j _ => ?_
  simp only [Function.comp_apply, Nat.add_assoc]
theorem bytesAt_len (g : Nat → Int) (o n : Nat) : (bytesAt g o n).length = n := by simp [bytesAt]
theorem bytesAt_get {g : Nat → Int} {o n j : Nat} {u : Value} (h : (u8s (bytesAt g o n))[j]? = some u) : j < n ∧ u = .int .u8 (g (o + j)) := by
  unfold u8s bytesAt at h
  simp only [List.getElem?_map, Option.map_eq_some_iff] at h
  obtain ⟨z, ⟨q, hq, rfl⟩, rfl⟩ := h
  obtain ⟨hq1, hq2⟩ := List.getElem?_eq_some_iff.1 hq
  simp at hq1 hq2
  subst hq2
  exact ⟨hq1, rfl⟩

set_option maxRecDepth 100000 in
set_option maxHeartbeats 4000000 in
theorem r_image {mm k c : Nat} {A : Option Addr} {r : Rg} {x : Value} {ps : List (Nat × Nat)} {g : Nat → Int} (S : Nat) (w : World) (h : RM w mm k c A (stR r) x ps g) (hS : sum r k = S) (hS1 : S ≤ 1048576) :
    Calls Try.prog 31 #[.pointer (some ⟨mm, 0, none⟩)] w fun e w' => ∃ (A' : Option Addr) (c' : Nat), e = .returned (.slice A' S c') ∧ w'.ownsRow w.heap.size 5 1 (.slice A' S c') S (u8s (bytesAt g 0 S)) ∧ Below w.heap.size w w' := by
  have hb0 : Below w.heap.size w w := Below.refl _ _
  obtain ⟨i0, hi0, hz0, hz1, hz2⟩ := GmNew.u8info
  have H0 := Lib.hid hi0
  have H1 := Lib.hid hz0
  have H2 := Lib.hid hz1
  have H3 := Lib.hid hz2
  obtain ⟨A3, c3, rfl⟩ : ∃ A3 c3, x = .slice A3 k c3 := by obtain ⟨B, ho⟩ := h.own; exact own_slice ho
  have H := Lib.hid h
  have HS := Lib.hid hS
  have k1 := H.out.k1
  have hRw : Raw r k := fun i hi => h.raw i hi
  have HR := Lib.hid hRw
  clear h hS hi0 hz0 hz1 hz2 hRw
  go_enter Try.func31, Try.ntmps31
  go_wp2_with fail
  go_loopw [3, 4] (fun v y wr => ∃ (j n c5 : Nat) (A5 : Option Addr), j ≤ k ∧ sum r j = n ∧ n ≤ S ∧ v = .slice A5 n c5 ∧ y = .int .i64 j ∧ wr.ownsRow w.heap.size 5 1 (.slice A5 n c5) n (u8s (bytesAt g 0 n)) ∧ Below w.heap.size w wr) (fun v y wr => k - (intOf y).toNat)
  case atStart => exact ⟨0, 0, 0, none, by omega, rfl, by omega, rfl, rfl, ⟨rfl, .inl ⟨rfl, rfl⟩⟩, Below.refl _ _⟩
  case round =>
    obtain ⟨j, n, c5, A5, hj, hn, hnS, rfl, rfl, hown, hb⟩ := hrel
    have hwz := hb.size
    have m2 : wr.cell? ⟨mm, 1, none⟩ = some (.slice A3 k c3) := (hb.cell (p := ⟨mm, 1, none⟩) H.out.two.lt).trans (H.out.two.cell (i := 1) (by decide))
    by_cases hlt : j < k
    · obtain ⟨G, b, c4, hxe, hGl, hps, hc⟩ := H.out.part2 hlt
      obtain ⟨rfl, rfl⟩ : A3 = some ⟨G, 0, none⟩ ∧ c3 = c4 := by injection hxe with e1 _ e2; exact ⟨e1, e2⟩
      obtain ⟨L, hL⟩ : ∃ L : Nat, (r.len j).toNat = L := ⟨_, rfl⟩
      have hc' : w.cell? ⟨G, j, none⟩ = some (.slice (some ⟨b, 0, none⟩) L L) := by rw [← hL]; exact hc
      have hrow : w.rowIs b 5 L (fun q => .int .u8 (g (n + q))) := by
        have := H.out.row j _ hps
        have e : ((stR r).st j).toNat = n := by show (sum r j).toNat = n; omega
        rw [e] at this
        rw [← hL]
        exact this
      have mc := (hb.cell (p := ⟨G, j, none⟩) hGl).trans hc'
      obtain ⟨r1, r2, r3, r4⟩ := HR.out j hlt
      have hsj : sum r (j + 1) = (n : Int) + r.len j := by show sum r j + r.len j = _; omega
      have hsj2 : sum r (j + 1) = ((n + L : Nat) : Int) := by omega
      have hle : n + L ≤ S := by
        rcases Nat.lt_or_ge (j + 1) k with h1 | h1
        · have := sum_up HR.out (Nat.le_refl k) h1
          have := (HR.out (j + 1) h1).2.2.1
          have := HS.out
          omega
        · obtain rfl : j + 1 = k := by omega
          have := HS.out
          omega
      have HNW := Lib.hid (show ∀ q u, (u8s (bytesAt g n L))[q]? = some u → wr.cell? ((⟨b, 0, none⟩ : Addr).add q) = some u from fun q u hq => by
        obtain ⟨h1, rfl⟩ := bytesAt_get hq
        have e : ((⟨b, 0, none⟩ : Addr).add q) = ⟨b, q, none⟩ := by unfold Addr.add; split <;> simp_all
        rw [e]
        exact (hrow.of_block (hb.block b hrow.lt)).cell h1)
      have HLN := Lib.hid (show (u8s (bytesAt g n L)).length = L * 1 from by simp [u8s, bytesAt])
      have HO := Lib.hid hown
      have HB := Lib.hid hb
      have HSJ := Lib.hid hsj2
      have x2 : (j : Int) < (k : Int) := by omega
      have f1 : decide ((j : Int) < (k : Int)) = true := decide_eq_true x2
      clear hc hc' hrow hown hb hps hxe hn hsj hsj2 hL r1 r2 r3 r4
      go_wp2_with (at_builtin; refine wpList_append_own _ rfl _ _ 24 rfl w.heap.size 5 i0 (.int .u8 0) 1 1 Try.underlying24 H0.out H1.out H2.out H3.out rfl (by decide) (.slice A5 n c5) n (u8s (bytesAt g 0 n)) rfl HO.out ⟨b, 0, none⟩ L L (u8s (bytesAt g n L)) rfl HLN.out HNW.out (u8s_one _) (by unfold maxLen; omega) (by omega) hwz ?_)
      intro v' W2 hown' hg' _
      have hown2 : W2.ownsRow w.heap.size 5 1 v' (n + L) (u8s (bytesAt g 0 (n + L))) := by
        rw [bytesAt_add, u8s_append, Nat.zero_add]
        exact hown'
      obtain ⟨A6, c6, rfl⟩ := own_slice hown2
      have hb2 : Below w.heap.size w W2 := HB.out.grown hg' hwz (fun q e => own_block HO.out q e)
      have HH := Lib.hid (And.intro hown2 hb2)
      clear hown' hg' hown2 hb2 mc m2
      go_wp2_with fail
      go_roundw
      case rel => exact ⟨j + 1, n + L, c6, A6, by omega, HSJ.out, hle, rfl, by go_num, HH.out.1, HH.out.2⟩
      case measure => simp [intOf]; omega
    · obtain rfl : j = k := by omega
      obtain rfl : n = S := by have := HS.out; omega
      have f1 : decide ((j : Int) < (j : Int)) = false := decide_eq_false (by omega)
      go_wp2_with fail
      go_ret
      exact ⟨A5, c5, rfl, hown, hb⟩
end Go.Proofs.Ytkejcdephnkkgaa.GmRefP

/- Arguments that are slices of structs of one-cell fields, opened. -/
namespace Go.Proofs.Ytkejcdephnkkgaa.Args
open Go.ChangeShapes Go.WideShapes Go.ChangeAt Go.RowKit Go.Deep Rw
set_option linter.unusedVariables false

theorem block_lt {w : World} {a : Addr} {v : Value} (h : w.cell? a = some v) : a.block < w.heap.size := by
  unfold World.cell? at h
  cases ho : w.heap[a.block]? with
  | none => simp [ho] at h
  | some o => exact (Array.getElem?_eq_some_iff.1 ho).1

section
variable {H : Type} {enc : TypeId × Value → H} {P : Program} {W : World} {base : Nat} {spare : Nat → Bool} {held : Bool}
theorem open_structs {r : Reach} {b0 : Nat} {t e : TypeId} {fs : Array Field} {v : Value} {d : DataW H} {p : List MemPlace} (ht : P.underlying t = some (.slice e)) (he : P.underlying e = some (.struct fs))
    (hone : oneCellFields P fs = true) (hC : P.cellsOf e = fs.size) (h0 : 0 < fs.size) (hv : Value.okWide P W r b0 t v) (h : DataW.Trod enc P W base spare held t v d p) :
    ∃ (A : Option Addr) (n c : Nat) (F : Nat → Value), v = .slice A n c ∧ n ≤ c ∧ c ≤ maxLen ∧ IsRow W W.heap.size fs.size A n F ∧
      ∀ i, i < n → ∀ (j : Nat) (f : Field), fs[j]? = some f → ∃ (m : Nat) (y : DataW H × List MemPlace), DataW.trod enc P W base spare held m f.type [F (i * fs.size + j)] = some y := by
  obtain ⟨fuel, hf⟩ := h
  rcases open_slice ht hf with ⟨h1, _⟩ | ⟨a, len, cap, m, n, D, Pl, hcs, hb, hl, hm, hmm, hx, hi⟩
  · exact ⟨none, 0, 0, fun _ => undef, cells_slice ht hv h1, by omega, by decide, IsRow.none_, fun i hi => by omega⟩
  · have key : ∀ i, i < len → ∀ (j : Nat) (f : Field), fs[j]? = some f → ∃ (v : Value) (m : Nat) (y : DataW H × List MemPlace), W.cell? (a.add (i * fs.size + j)) = some v ∧ DataW.trod enc P W base spare held m f.type [v] = some y := by
      intro i hil j f hj
      obtain ⟨cs', hc, ht'⟩ := hi i (by subst hmm; split <;> omega)
      rw [hC] at hc
      obtain ⟨ys, n', hn', hy, hlen, hyl, hff⟩ := DataW.trod_struct he ht'
      obtain ⟨_, hcl, hat⟩ := World.cells?_some hc
      obtain ⟨ho, hk⟩ := hone_of hone j f hj
      have hjl : j < fs.size := (Array.getElem?_eq_some_iff.1 hj).1
      have hcell := hat j hjl
      have hv' : cs'[j]? = some (cs'[j]'(by omega)) := List.getElem?_eq_getElem (by omega)
      have h1 := hff j f hj
      rw [ho, hk] at h1
      have hone' : (cs'.drop j).take 1 = [cs'[j]'(by omega)] := by
        rw [List.drop_eq_getElem_cons (by omega)]
        rfl
      rw [hone'] at h1
      have hys : ys[j]? = some (ys[j]'(by omega)) := List.getElem?_eq_getElem (by omega)
      refine ⟨_, _, _, ?_, h1.trans hys⟩
      rw [← Go.Deep.add_add, hcell, hv']
    refine ⟨some a, len, cap, fun k => (W.cell? (a.add k)).getD undef, cells_slice ht hv hcs, hl, by omega, ?_, ?_⟩
    · intro hn
      have cell : ∀ k, k < len * fs.size → ∃ v, W.cell? (a.add k) = some v := fun k hk => by
        have hq : k / fs.size < len := Nat.div_lt_of_lt_mul (by rw [Nat.mul_comm]; exact hk)
        have hr : k % fs.size < fs.size := Nat.mod_lt _ h0
        obtain ⟨v, _, _, hc, _⟩ := key (k / fs.size) hq (k % fs.size) fs[k % fs.size] (Array.getElem?_eq_getElem hr)
        rw [Nat.mul_comm, Nat.div_add_mod] at hc
        exact ⟨v, hc⟩
      refine ⟨a, rfl, ?_, fun k hk => ?_⟩
      · obtain ⟨v, hc⟩ := cell 0 (Nat.mul_pos hn h0)
        have := block_lt hc
        rwa [block_of_add] at this
      · obtain ⟨v, hc⟩ := cell k hk
        show W.cell? (a.add k) = some ((W.cell? (a.add k)).getD undef)
        rw [hc, Option.getD_some]
    · intro i hil j f hj
      obtain ⟨v, m', y, hc, ht'⟩ := key i hil j f hj
      exact ⟨m', y, by simp only [hc, Option.getD_some]; exact ht'⟩
/-- A cell that reads as a number. -/
theorem cell_int {t : TypeId} {k : IntKind} {m : Nat} {x : Value} {y : DataW H × List MemPlace} (ht : P.underlying t = some (.int k)) (hy : DataW.trod enc P W base spare held m t [x] = some y) : x = .int k (intOf x) ∧ (Lit.int k (intOf x)).wf = true := by
  obtain ⟨n, e, _, wx⟩ := DataW.trod_int ht hy
  simp at e
  subst e
  exact ⟨rfl, wx⟩
end

end Go.Proofs.Ytkejcdephnkkgaa.Args

/- Arguments that are lists of regions, opened. -/
namespace Go.Proofs.Ytkejcdephnkkgaa.GmArgs
open Go.ChangeShapes Go.WideShapes Go.ChangeAt Go.RowKit Go.Deep Rw GmFind GmCheck
set_option linter.unusedVariables false

theorem cRegion : Try.prog.cellsOf 75 = 2 := by kernel_rfl
/-- A list of regions. -/
structure IsRegs (W : World) (v : Value) (A : Option Addr) (k c : Nat) (r : Rg) : Prop where
  val : v = .slice A k c
  none_ : A = none → k = 0 ∧ c = 0
  le : k ≤ c
  max : c ≤ maxLen
  raw : Raw r k
  lst : Lst W W.heap.size A k r

theorem none_empty {H : Type} {enc : TypeId × Value → H} {P : Program} {W : World} {base : Nat} {spare : Nat → Bool} {held : Bool} {t e : TypeId} {n c : Nat} {d : DataW H} {p : List MemPlace} (ht : P.underlying t = some (.slice e)) (h : DataW.Trod enc P W base spare held t (.slice none n c) d p) : n = 0 ∧ c = 0 := by
  obtain ⟨fuel, hf⟩ := h
  rcases open_slice ht hf with ⟨h1, _⟩ | ⟨a, len, cap, m, k, D, Pl, hcs, _⟩
  · have h1 : [Value.slice none n c] = [Value.slice none 0 0] := h1
    injection h1 with h1 _
    injection h1 with _ h2 h3
    exact ⟨h2, h3⟩
  · have hcs : [Value.slice none n c] = [Value.slice (some a) len cap] := hcs
    injection hcs with hcs _
    injection hcs with h1 _
    cases h1

set_option maxRecDepth 100000 in
theorem open_regions {H : Type} {enc : TypeId × Value → H} {W : World} {r : Reach} {b0 base : Nat} {spare : Nat → Bool} {held : Bool} {v : Value} {d : DataW H} {p : List MemPlace}
    (hv : Value.okWide Try.prog W r b0 22 v) (h : DataW.Trod enc Try.prog W base spare held 22 v d p) : ∃ A k c r, IsRegs W v A k c r := by
  obtain ⟨A, n, c, F, hv', hn, hc, hr, hf⟩ := Args.open_structs Try.underlying22 Try.underlying75 (by kernel_rfl) cRegion (by decide) hv h
  have t0 : ∀ i, i < n → F (i * 2) = .int .u64 (intOf (F (i * 2))) ∧ (Lit.int .u64 (intOf (F (i * 2)))).wf = true := fun i hi => by
    obtain ⟨m, y, hy⟩ := hf i hi 0 _ rfl
    exact Args.cell_int Try.underlying25 hy
  have t1 : ∀ i, i < n → F (i * 2 + 1) = .int .u64 (intOf (F (i * 2 + 1))) ∧ (Lit.int .u64 (intOf (F (i * 2 + 1)))).wf = true := fun i hi => by
    obtain ⟨m, y, hy⟩ := hf i hi 1 _ rfl
    exact Args.cell_int Try.underlying25 hy
  refine ⟨A, n, c, ⟨fun i => intOf (F (i * 2)), fun i => intOf (F (i * 2 + 1)), fun _ => 0⟩, hv', ?_, hn, hc, ?_, ?_⟩
  · rintro rfl
    subst hv'
    exact none_empty Try.underlying22 h
  · intro i hi
    obtain ⟨k1, k2⟩ := bounds_u64 (t0 i hi).2
    obtain ⟨k3, k4⟩ := bounds_u64 (t1 i hi).2
    exact ⟨k1, k2, k3, k4⟩
  · refine hr.congr fun j hj => ?_
    have hj : j < n * 2 := hj
    have hj' : j / 2 < n := Nat.div_lt_of_lt_mul (by rw [Nat.mul_comm]; exact hj)
    unfold Rg.cell
    by_cases h0 : j % 2 = 0
    · rw [if_pos h0]
      have e : j / 2 * 2 = j := by omega
      have := (t0 (j / 2) hj').1
      rw [e] at this
      show F j = .int .u64 (intOf (F (j / 2 * 2)))
      rw [e]; exact this
    · rw [if_neg h0]
      have e : j / 2 * 2 + 1 = j := by omega
      have := (t1 (j / 2) hj').1
      rw [e] at this
      show F j = .int .u64 (intOf (F (j / 2 * 2 + 1)))
      rw [e]; exact this

end Go.Proofs.Ytkejcdephnkkgaa.GmArgs
