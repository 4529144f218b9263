
/- Memory in regions: where a range lies. Contracts of end, valid, sort.Search with find's closure. -/
import Derived.Test.YtmmgcmbniidieaaRow
import Derived.Test.YtmmgcmbniidieaaHeld
import Derived.RegionTactic
import Derived.BigRegion
import Derived.LoopN
import Derived.LaidEqlPtr
namespace Go.Proofs.Ytmmgcmbniidieaa.GmFind
open Go.RowKit Rw
set_option linter.unusedVariables false
set_option linter.unusedSimpArgs false

/-- Regions by number; where each begins in the bytes. -/
structure Rg where
  at_ : Nat → Int
  len : Nat → Int
  st : Nat → Int
def Rg.end_ (r : Rg) (i : Nat) : Int := r.at_ i + (r.len i - 1)
/-- A region's numbers. -/
structure Rg.In (r : Rg) (k : Nat) : Prop where
  a0 : ∀ i, i < k → 0 ≤ r.at_ i
  l0 : ∀ i, i < k → 1 ≤ r.len i
  e1 : ∀ i, i < k → r.end_ i ≤ 18446744073709551615
  up : ∀ i, i + 1 < k → r.end_ i < r.at_ (i + 1)
def Rg.cell (r : Rg) (k : Nat) : Value := if k % 2 = 0 then .int .u64 (r.at_ (k / 2)) else .int .u64 (r.len (k / 2))
theorem Rg.cell0 (r : Rg) (i : Nat) : r.cell (i * 2) = .int .u64 (r.at_ i) := by unfold Rg.cell; rw [if_pos (by omega)]; congr 2; omega
theorem Rg.cell1 (r : Rg) (i : Nat) : r.cell (i * 2 + 1) = .int .u64 (r.len i) := by unfold Rg.cell; rw [if_neg (by omega)]; congr 2; omega

/-- A memory's own block, its list of regions and where they begin. -/
structure MemAt (w : World) (m k g1 : Nat) (A2 A3 : Option Addr) (c1 c2 n3 c3 : Nat) (r : Rg) : Prop where
  self : w.cell? ⟨m, 0, none⟩ = some (.pointer (some ⟨m, 0, none⟩))
  regs : w.cell? ⟨m, 1, none⟩ = some (.slice (some ⟨g1, 0, none⟩) k c1)
  sts : w.cell? ⟨m, 2, none⟩ = some (.slice A2 k c2)
  bys : w.cell? ⟨m, 3, none⟩ = some (.slice A3 n3 c3)
  lt : m < w.heap.size
  lt1 : g1 < w.heap.size
  row1 : ∀ j, j < k * 2 → w.cell? ⟨g1, j, none⟩ = some (r.cell j)
  fz : ∀ b o, b < w.heap.size → (b = m ∨ b = g1) → w.frozen? ⟨b, o, none⟩ = false
  row2 : IsRow w w.heap.size 1 A2 k (fun j => .int .i64 (r.st j))
theorem MemAt.below {w w' : World} {m k g1 : Nat} {A2 A3 : Option Addr} {c1 c2 n3 c3 : Nat} {r : Rg} (h : MemAt w m k g1 A2 A3 c1 c2 n3 c3 r) (hb : Below w.heap.size w w') : MemAt w' m k g1 A2 A3 c1 c2 n3 c3 r :=
  ⟨(hb.cell (p := ⟨m, 0, none⟩) h.lt).trans h.self, (hb.cell (p := ⟨m, 1, none⟩) h.lt).trans h.regs, (hb.cell (p := ⟨m, 2, none⟩) h.lt).trans h.sts, (hb.cell (p := ⟨m, 3, none⟩) h.lt).trans h.bys, Nat.lt_of_lt_of_le h.lt hb.size, Nat.lt_of_lt_of_le h.lt1 hb.size,
    fun j hj => (hb.cell (p := ⟨g1, j, none⟩) h.lt1).trans (h.row1 j hj), fun b o _ he => by
      have hbl : b < w.heap.size := by rcases he with rfl | rfl; exact h.lt; exact h.lt1
      exact (hb.frozen (p := ⟨b, o, none⟩) hbl).trans (h.fz b o hbl he), (h.row2.below hb).more hb.size⟩

theorem end_any (a l : Int) (w : World) (h0 : 0 ≤ a) (h1 : 1 ≤ l) (h2 : a + (l - 1) ≤ 18446744073709551615) : Calls Try.prog 52 #[.agg #[.int .u64 a, .int .u64 l]] w fun e w' => e = .returned (.int .u64 (a + (l - 1))) ∧ Below w.heap.size w w' := by
  have h3 : l - 1 ≤ 18446744073709551615 := by omega
  go_enter Try.func52, Try.ntmps52
  go_wp2
  go_ret
  exact ⟨rfl, by go_grown⟩

set_option maxRecDepth 100000 in
theorem valid_any (m : Nat) (w : World) (h : w.cell? ⟨m, 0, none⟩ = some (.pointer (some ⟨m, 0, none⟩))) : Calls Try.prog 55 #[.pointer (some ⟨m, 0, none⟩)] w fun e w' => e = .returned (.bool true) ∧ w = w' := by
  obtain ⟨i0, hi, _⟩ := Option.map_eq_some_iff.1 (show (Try.prog.info? 75).map (fun _ => ()) = some () from by kernel_rfl)
  have hq := fun W => run_eql_ptr_same (P := Try.prog) W (tp := 28) ⟨m, 0, none⟩ Try.underlying28 hi
  clear hi
  go_enter Try.func55, Try.ntmps55
  go_wp2
  go_ret
  exact ⟨rfl, rfl⟩

set_option maxRecDepth 100000 in
set_option maxHeartbeats 1000000 in
theorem closure_any (i k m g1 ba bm : Nat) (at_ : Int) {A2 A3 : Option Addr} {c1 c2 n3 c3 : Nat} (r : Rg) (w : World) (hi : i < k) (hr : r.In k) (h : MemAt w m k g1 A2 A3 c1 c2 n3 c3 r)
    (ha : w.cell? ⟨ba, 0, none⟩ = some (.int .u64 at_)) (hm : w.cell? ⟨bm, 0, none⟩ = some (.pointer (some ⟨m, 0, none⟩))) (hba : ba < w.heap.size) (hbm : bm < w.heap.size) (hfa : w.frozen? ⟨ba, 0, none⟩ = false) (hfm : w.frozen? ⟨bm, 0, none⟩ = false) :
    Calls Try.prog 63 #[.int .i64 i, .pointer (some ⟨ba, 0, none⟩), .pointer (some ⟨bm, 0, none⟩)] w fun e w' => e = .returned (.bool (decide (at_ ≤ r.end_ i))) ∧ Below w.heap.size w w' := by
  have hb0 : Below w.heap.size w w := Below.refl _ _
  obtain ⟨h1, h2, h3, h4, h5, h6, h7, h8, h9⟩ := h
  have d0 : w.cell? ⟨g1, i * 2, none⟩ = some (.int .u64 (r.at_ i)) := (h7 _ (by omega)).trans (by rw [Rg.cell0])
  have d1 : w.cell? ⟨g1, i * 2 + 1, none⟩ = some (.int .u64 (r.len i)) := (h7 _ (by omega)).trans (by rw [Rg.cell1])
  have z0 : w.frozen? ⟨m, 0, none⟩ = false := h8 m 0 h5 (.inl rfl)
  have z1 : w.frozen? ⟨m, 1, none⟩ = false := h8 m 1 h5 (.inl rfl)
  have z2 : w.frozen? ⟨g1, i * 2, none⟩ = false := h8 g1 _ h6 (.inr rfl)
  have z3 : w.frozen? ⟨g1, i * 2 + 1, none⟩ = false := h8 g1 _ h6 (.inr rfl)
  have g0 := hr.a0 i hi
  have g1' := hr.l0 i hi
  have g2 := hr.e1 i hi
  unfold Rg.end_ at g2 ⊢
  clear hr h7 h8 h9 h3 h4
  go_enter Try.func63, Try.ntmps63
  go_wp2_with fail
  refine Lib.wp_region_class (Lib.Held w _ [(ba, 0, (.int .u64 at_ : Value)), (bm, 0, (.pointer (some ⟨m, 0, none⟩) : Value)), (m, 0, (.pointer (some ⟨m, 0, none⟩) : Value)), (m, 1, (.slice (some ⟨g1, 0, none⟩) k c1 : Value)), (g1, i * 2, (.int .u64 (r.at_ i) : Value)), (g1, i * 2 + 1, (.int .u64 (r.len i) : Value))]) (by kernel_rfl) (by kernel_rfl) ⟨by go_grown, Below.refl _ _, ⟨by first | omega | go_size, by first | go_cell | (simp [*]; done), by first | (with_reducible assumption) | (go_simp; done) | (simp [*]; done)⟩, ⟨by first | omega | go_size, by first | go_cell | (simp [*]; done), by first | (with_reducible assumption) | (go_simp; done) | (simp [*]; done)⟩, ⟨by first | omega | go_size, by first | go_cell | (simp [*]; done), by first | (with_reducible assumption) | (go_simp; done) | (simp [*]; done)⟩, ⟨by first | omega | go_size, by first | go_cell | (simp [*]; done), by first | (with_reducible assumption) | (go_simp; done) | (simp [*]; done)⟩, ⟨by first | omega | go_size, by first | go_cell | (simp [*]; done), by first | (with_reducible assumption) | (go_simp; done) | (simp [*]; done)⟩, ⟨by first | omega | go_size, by first | go_cell | (simp [*]; done), by first | (with_reducible assumption) | (go_simp; done) | (simp [*]; done)⟩, trivial⟩ ?_
  repeat (first | go_big_quiet_step ((intro hq; first | rfl | (go_at_call 52; exact Lib.Held.call hq (end_any _ _ _ g0 g1' g2)) | (have hq' := hq; obtain ⟨hbq, heq, ⟨hkq_0, hlq_0, hzq_0⟩, ⟨hkq_1, hlq_1, hzq_1⟩, ⟨hkq_2, hlq_2, hzq_2⟩, ⟨hkq_3, hlq_3, hzq_3⟩, ⟨hkq_4, hlq_4, hzq_4⟩, ⟨hkq_5, hlq_5, hzq_5⟩, _⟩ := hq'; go_simp; rfl))) | quiet_step ((intro hq; first | rfl | (go_at_call 52; exact Lib.Held.call hq (end_any _ _ _ g0 g1' g2)) | (have hq' := hq; obtain ⟨hbq, heq, ⟨hkq_0, hlq_0, hzq_0⟩, ⟨hkq_1, hlq_1, hzq_1⟩, ⟨hkq_2, hlq_2, hzq_2⟩, ⟨hkq_3, hlq_3, hzq_3⟩, ⟨hkq_4, hlq_4, hzq_4⟩, ⟨hkq_5, hlq_5, hzq_5⟩, _⟩ := hq'; go_simp; rfl))))
  refine wpQuiet_nil ?_
  intro W1 hq1
  obtain ⟨hb1, he1, ⟨hk1_0, hl1_0, hz1_0⟩, ⟨hk1_1, hl1_1, hz1_1⟩, ⟨hk1_2, hl1_2, hz1_2⟩, ⟨hk1_3, hl1_3, hz1_3⟩, ⟨hk1_4, hl1_4, hz1_4⟩, ⟨hk1_5, hl1_5, hz1_5⟩, _⟩ := hq1
  have hs1 := he1.size
  try simp only [World.size_alloc, World.size_setCell, World.size_drew] at hs1
  go_wp2_with fail
  go_ret
  exact ⟨rfl, hb1⟩

theorem Rg.In.mono {r : Rg} {k : Nat} (h : r.In k) : ∀ (d i : Nat), i + d < k → r.end_ i ≤ r.end_ (i + d)
  | 0, i, _ => Int.le_refl _
  | d + 1, i, hi => by
    have h1 := h.mono d i (by omega)
    have h2 := h.up (i + d) (by omega)
    have h3 := h.l0 (i + d + 1) (by omega)
    have h4 : r.end_ (i + (d + 1)) = r.at_ (i + d + 1) + (r.len (i + d + 1) - 1) := rfl
    omega
theorem Rg.In.mono' {r : Rg} {k : Nat} (h : r.In k) {i j : Nat} (hij : i ≤ j) (hj : j < k) : r.end_ i ≤ r.end_ j := by
  have := h.mono (j - i) i (by omega)
  rwa [show i + (j - i) = j from by omega] at this

set_option maxRecDepth 100000 in
set_option maxHeartbeats 2000000 in
theorem search_any (k m g1 ba bm : Nat) (at_ : Int) {A2 A3 : Option Addr} {c1 c2 n3 c3 : Nat} (r : Rg) (w : World) (hk : k ≤ 1000000) (hr : r.In k) (h : MemAt w m k g1 A2 A3 c1 c2 n3 c3 r)
    (ha : w.cell? ⟨ba, 0, none⟩ = some (.int .u64 at_)) (hm : w.cell? ⟨bm, 0, none⟩ = some (.pointer (some ⟨m, 0, none⟩))) (hba : ba < w.heap.size) (hbm : bm < w.heap.size) (hfa : w.frozen? ⟨ba, 0, none⟩ = false) (hfm : w.frozen? ⟨bm, 0, none⟩ = false) :
    Calls Try.prog 62 #[.int .i64 k, .func (.func 63) #[] #[.pointer (some ⟨ba, 0, none⟩), .pointer (some ⟨bm, 0, none⟩)]] w fun e w' => ∃ i : Nat, e = .returned (.int .i64 i) ∧ i ≤ k ∧ (∀ j, j < i → r.end_ j < at_) ∧ (i < k → at_ ≤ r.end_ i) ∧ Below w.heap.size w w' := by
  go_enter Try.func62, Try.ntmps62
  go_wp2_with fail
  go_loopw [5, 6, 7] (fun x y z wr => ∃ lo hi : Nat, lo ≤ hi ∧ hi ≤ k ∧ x = .int .i64 lo ∧ y = .int .i64 hi ∧ (∀ j, j < lo → r.end_ j < at_) ∧ (hi < k → at_ ≤ r.end_ hi) ∧ Below w.heap.size w wr) (fun x y z wr => (intOf y).toNat - (intOf x).toNat)
  case atStart => exact ⟨0, k, by omega, by omega, rfl, rfl, fun j hj => by omega, fun h => by omega, Below.refl _ _⟩
  case round =>
    obtain ⟨lo, hi, hl, hh, rfl, rfl, hlo, hhi, hb⟩ := hrel
    have HLO := Lib.hid hlo
    have HHI := Lib.hid hhi
    clear hlo hhi
    by_cases hlt : lo < hi
    · obtain ⟨q, hq⟩ : ∃ q, (lo + hi) / 2 = q := ⟨_, rfl⟩
      have hq1 : lo ≤ q := by omega
      have hq2 : q < hi := by omega
      have hwm := h.below hb
      have hcl := closure_any q k m g1 ba bm at_ r wr (by omega) hr hwm ((hb.cell (p := ⟨ba, 0, none⟩) hba).trans ha) ((hb.cell (p := ⟨bm, 0, none⟩) hbm).trans hm) (Nat.lt_of_lt_of_le hba hb.size) (Nat.lt_of_lt_of_le hbm hb.size) ((hb.frozen (p := ⟨ba, 0, none⟩) hba).trans hfa) ((hb.frozen (p := ⟨bm, 0, none⟩) hbm).trans hfm)
      have hqi : ((lo : Int) + hi) / 2 = q := by omega
      have HC := Lib.hid hcl
      clear hcl hwm
      go_wp2_with fail
      refine HC.out.mono ?_
      rintro e W1 ⟨rfl, hb1⟩
      have hb2 := hb.trans (hb1.mono hb.size)
      clear HC hq
      by_cases hcc : at_ ≤ r.end_ q
      · rw [show decide (at_ ≤ r.end_ q) = true from by simpa using hcc]
        have HCC := Lib.hid hcc
        clear hcc
        go_wp2_with fail
        go_roundw
        case rel => exact ⟨lo, q, by omega, by omega, rfl, rfl, HLO.out, fun _ => HCC.out, hb2⟩
        case measure => simp [intOf]; omega
      · rw [show decide (at_ ≤ r.end_ q) = false from by simpa using hcc]
        have HCC := Lib.hid hcc
        clear hcc
        go_wp2_with fail
        go_roundw
        case rel => exact ⟨q + 1, hi, by omega, by omega, by go_num, rfl, fun j hj => by
          have h1 := hr.mono' (i := j) (j := q) (by omega) (by omega)
          have h2 := HCC.out
          omega, HHI.out, hb2⟩
        case measure => simp [intOf]; omega
    · obtain rfl : lo = hi := by omega
      go_wp2_with fail
      go_ret
      exact ⟨lo, rfl, hh, HLO.out, HHI.out, hb⟩

/-- Where regions lie in the bytes. -/
def Rg.Fits (r : Rg) (k n3 : Nat) : Prop := ∀ i, i < k → 0 ≤ r.st i ∧ r.st i + r.len i ≤ n3
/-- What find answers, the region being known. -/
def okB (r : Rg) (k i : Nat) (at_ n : Int) : Bool := decide (i < k) && decide (r.at_ i ≤ at_) && decide (1 ≤ n) && decide (n - 1 ≤ r.end_ i - at_)

set_option maxRecDepth 100000 in
set_option maxHeartbeats 4000000 in
theorem find_any (k m g1 b3 : Nat) (at_ n : Int) {A2 : Option Addr} {c1 c2 n3 c3 : Nat} (r : Rg) (w : World) (hk : k ≤ 1000000) (hr : r.In k) (hf : r.Fits k n3) (hn3 : n3 ≤ c3) (hn3' : n3 ≤ 1000000000) (h : MemAt w m k g1 A2 (some ⟨b3, 0, none⟩) c1 c2 n3 c3 r)
    (ha0 : 0 ≤ at_) (ha1 : at_ ≤ 18446744073709551615) (h0 : 0 ≤ n) (h1 : n ≤ 18446744073709551615) :
    Calls Try.prog 56 #[.pointer (some ⟨m, 0, none⟩), .int .u64 at_, .int .u64 n] w fun e w' => ∃ i : Nat, i ≤ k ∧ (∀ j, j < i → r.end_ j < at_) ∧ (i < k → at_ ≤ r.end_ i) ∧ Below w.heap.size w w' ∧
      e = .returned (if okB r k i at_ n = true then .slice (some ⟨b3, (r.st i + (at_ - r.at_ i)).toNat, none⟩) n.toNat (c3 - (r.st i + (at_ - r.at_ i)).toNat) else .slice none 0 0) := by
  have hb0 : Below w.heap.size w w := Below.refl _ _
  have hself := h.self
  have hregs := h.regs
  have hsts := h.sts
  have hbys := h.bys
  have hlt := h.lt
  go_enter Try.func56, Try.ntmps56
  go_wp2_with fail
  have hB : Below w.heap.size w ((w.alloc (.cells #[.pointer (some ⟨m, 0, none⟩)] 28)).alloc (.cells #[.int .u64 at_] 26)) := by go_grown
  have hM := h.below hB
  (with_reducible refine (search_any k m g1 (w.heap.size + 1) w.heap.size at_ r _ hk hr hM (by go_cell) (by go_cell) (by go_size) (by go_size) (by go_simp) (by go_simp)).mono ?_)
  rintro e W1 ⟨i, rfl, hi, hlo, hhi, hg1⟩
  have HLO := Lib.hid hlo
  have HHI := Lib.hid hhi
  clear hlo hhi
  have hM1 := hM.below hg1
  have y0 := hM.fz m 0 hM.lt (.inl rfl)
  have y1 := hM.fz m 1 hM.lt (.inl rfl)
  have y2 := hM.fz m 2 hM.lt (.inl rfl)
  have y3 := hM.fz m 3 hM.lt (.inl rfl)
  have hb1 : Below w.heap.size w W1 := (show Below w.heap.size w _ by go_grown).trans (hg1.mono (by first | omega | go_size))
  obtain ⟨hc1, hf1⟩ := bcell hg1
  have hs1 := hg1.size
  try simp only [World.size_alloc, World.size_setCell, World.size_drew] at hs1
  have hl1_0_0 : W1.cell? ⟨w.heap.size, 0, none⟩ = some (.pointer (some ⟨m, 0, none⟩)) := (hc1 _ _ (by first | omega | go_size)).trans (by first | (with_reducible assumption) | go_cell)
  have hz1_0_0 : W1.frozen? ⟨w.heap.size, 0, none⟩ = false := (hf1 _ _ (by first | omega | go_size)).trans (by first | (with_reducible assumption) | (go_simp; done) | (simp [*]; done))
  have hk1_0 : w.heap.size < W1.heap.size := by omega
  have hl1_1_0 : W1.cell? ⟨w.heap.size + 1, 0, none⟩ = some (.int .u64 at_) := (hc1 _ _ (by first | omega | go_size)).trans (by first | (with_reducible assumption) | go_cell)
  have hz1_1_0 : W1.frozen? ⟨w.heap.size + 1, 0, none⟩ = false := (hf1 _ _ (by first | omega | go_size)).trans (by first | (with_reducible assumption) | (go_simp; done) | (simp [*]; done))
  have hk1_1 : w.heap.size + 1 < W1.heap.size := by omega
  have hl1_2_0 : W1.cell? ⟨m, 0, none⟩ = some (.pointer (some ⟨m, 0, none⟩)) := (hc1 _ _ (by first | omega | go_size)).trans (by first | (with_reducible assumption) | go_cell)
  have hz1_2_0 : W1.frozen? ⟨m, 0, none⟩ = false := (hf1 _ _ (by first | omega | go_size)).trans (by first | (with_reducible assumption) | (go_simp; done) | (simp [*]; done))
  have hl1_2_1 : W1.cell? ⟨m, 1, none⟩ = some (.slice (some ⟨g1, 0, none⟩) k c1) := (hc1 _ _ (by first | omega | go_size)).trans (by first | (with_reducible assumption) | go_cell)
  have hz1_2_1 : W1.frozen? ⟨m, 1, none⟩ = false := (hf1 _ _ (by first | omega | go_size)).trans (by first | (with_reducible assumption) | (go_simp; done) | (simp [*]; done))
  have hl1_2_2 : W1.cell? ⟨m, 2, none⟩ = some (.slice A2 k c2) := (hc1 _ _ (by first | omega | go_size)).trans (by first | (with_reducible assumption) | go_cell)
  have hz1_2_2 : W1.frozen? ⟨m, 2, none⟩ = false := (hf1 _ _ (by first | omega | go_size)).trans (by first | (with_reducible assumption) | (go_simp; done) | (simp [*]; done))
  have hl1_2_3 : W1.cell? ⟨m, 3, none⟩ = some (.slice (some ⟨b3, 0, none⟩) n3 c3) := (hc1 _ _ (by first | omega | go_size)).trans (by first | (with_reducible assumption) | go_cell)
  have hz1_2_3 : W1.frozen? ⟨m, 3, none⟩ = false := (hf1 _ _ (by first | omega | go_size)).trans (by first | (with_reducible assumption) | (go_simp; done) | (simp [*]; done))
  have hk1_2 : m < W1.heap.size := by omega
  clear hg1 hc1 hf1
  go_wp2_with fail
  clear y0 y1 y2 y3
  obtain ⟨_, _, _, _, _, mg1, mrow, mfz, mrow2⟩ := hM1
  by_cases hik : i < k
  case neg =>
    have e1 : ((i : Int) == (k : Int)) = true := by simp; omega
    have HO := Lib.hid (show okB r k i at_ n = false from by unfold okB; simp [hik])
    clear hM mrow mrow2 mfz
    go_region
    go_wp2
    go_ret
    exact ⟨i, hi, HLO.out, HHI.out, hb1.drew, by rw [HO.out]; rfl⟩
  have e1 : ((i : Int) == (k : Int)) = false := by simp; omega
  have d0 : W1.cell? ⟨g1, i * 2, none⟩ = some (.int .u64 (r.at_ i)) := (mrow _ (by omega)).trans (by rw [Rg.cell0])
  have d1 : W1.cell? ⟨g1, i * 2 + 1, none⟩ = some (.int .u64 (r.len i)) := (mrow _ (by omega)).trans (by rw [Rg.cell1])
  have z2 : W1.frozen? ⟨g1, i * 2, none⟩ = false := mfz g1 _ mg1 (.inr rfl)
  have z3 : W1.frozen? ⟨g1, i * 2 + 1, none⟩ = false := mfz g1 _ mg1 (.inr rfl)
  obtain ⟨ad2, hA2, hab, hacell⟩ := mrow2 (by omega)
  have d2 : W1.cell? (ad2.add i) = some (.int .i64 (r.st i)) := hacell i (by omega)
  have q0 := hr.a0 i hik
  have q1 := hr.l0 i hik
  have q2 := hr.e1 i hik
  obtain ⟨q3, q4⟩ := hf i hik
  have q5 := HHI.out hik
  clear hM mrow mrow2 mfz hacell
  by_cases hat : r.at_ i ≤ at_
  case neg =>
    have HO := Lib.hid (show okB r k i at_ n = false from by unfold okB; simp [hat])
    go_region
    go_wp2
    go_ret
    exact ⟨i, hi, HLO.out, HHI.out, hb1.drew, by rw [HO.out]; rfl⟩
  go_region
  go_wp2_with fail
  by_cases hn0 : n = 0
  case pos =>
    subst hn0
    have HO := Lib.hid (show okB r k i at_ 0 = false from by unfold okB; simp)
    refine Lib.wp_region_class (Lib.Held w _ [] ) (by kernel_rfl) (by kernel_rfl) ⟨by go_grown, Below.refl _ _, trivial⟩ ?_
    repeat (first | go_big_quiet_step ((intro hq; first | rfl | (go_simp; rfl))) | quiet_step ((intro hq; first | rfl | (go_simp; rfl))))
    refine wpQuiet_nil ?_
    intro W2 hq2
    go_wp2
    go_ret
    exact ⟨i, hi, HLO.out, HHI.out, hq2.1, by rw [HO.out]; rfl⟩
  have hn1 : 1 ≤ n := by omega
  have en : ((n : Int) == 0) = false := by simp; omega
  unfold Rg.end_ at q2 q5
  have w1 : IntKind.u64.wrap (n - 1) = n - 1 := by rw [IntKind.wrap_u64]; omega
  have w2 : IntKind.u64.wrap (r.at_ i + (r.len i - 1) - at_) = r.at_ i + (r.len i - 1) - at_ := by rw [IntKind.wrap_u64]; omega
  by_cases hle : n - 1 ≤ r.at_ i + (r.len i - 1) - at_
  case neg =>
    have HO := Lib.hid (show okB r k i at_ n = false from by unfold okB Rg.end_; simp [hle])
    have hgt : decide (r.at_ i + (r.len i - 1) - at_ < n - 1) = true := by simp; omega
    refine Lib.wp_region_class (Lib.Held w _ [(w.heap.size, 0, (.pointer (some ⟨m, 0, none⟩) : Value)), (w.heap.size + 1, 0, (.int .u64 at_ : Value)), (m, 0, (.pointer (some ⟨m, 0, none⟩) : Value)), (m, 1, (.slice (some ⟨g1, 0, none⟩) k c1 : Value)), (m, 2, (.slice A2 k c2 : Value)), (m, 3, (.slice (some ⟨b3, 0, none⟩) n3 c3 : Value)), (g1, i * 2, (.int .u64 (r.at_ i) : Value)), (g1, i * 2 + 1, (.int .u64 (r.len i) : Value))]) (by kernel_rfl) (by kernel_rfl) ⟨by go_grown, Below.refl _ _, ⟨by first | omega | go_size, by first | go_cell | (simp [*]; done), by first | (with_reducible assumption) | (go_simp; done) | (simp [*]; done)⟩, ⟨by first | omega | go_size, by first | go_cell | (simp [*]; done), by first | (with_reducible assumption) | (go_simp; done) | (simp [*]; done)⟩, ⟨by first | omega | go_size, by first | go_cell | (simp [*]; done), by first | (with_reducible assumption) | (go_simp; done) | (simp [*]; done)⟩, ⟨by first | omega | go_size, by first | go_cell | (simp [*]; done), by first | (with_reducible assumption) | (go_simp; done) | (simp [*]; done)⟩, ⟨by first | omega | go_size, by first | go_cell | (simp [*]; done), by first | (with_reducible assumption) | (go_simp; done) | (simp [*]; done)⟩, ⟨by first | omega | go_size, by first | go_cell | (simp [*]; done), by first | (with_reducible assumption) | (go_simp; done) | (simp [*]; done)⟩, ⟨by first | omega | go_size, by first | go_cell | (simp [*]; done), by first | (with_reducible assumption) | (go_simp; done) | (simp [*]; done)⟩, ⟨by first | omega | go_size, by first | go_cell | (simp [*]; done), by first | (with_reducible assumption) | (go_simp; done) | (simp [*]; done)⟩, trivial⟩ ?_
    repeat (first | go_big_quiet_step ((intro hq; first | rfl | (go_at_call 52; exact Lib.Held.call hq (end_any _ _ _ q0 q1 q2)) | (have hq' := hq; obtain ⟨hbq, heq, ⟨hkq_0, hlq_0, hzq_0⟩, ⟨hkq_1, hlq_1, hzq_1⟩, ⟨hkq_2, hlq_2, hzq_2⟩, ⟨hkq_3, hlq_3, hzq_3⟩, ⟨hkq_4, hlq_4, hzq_4⟩, ⟨hkq_5, hlq_5, hzq_5⟩, ⟨hkq_6, hlq_6, hzq_6⟩, ⟨hkq_7, hlq_7, hzq_7⟩, _⟩ := hq'; go_simp; rfl))) | quiet_step ((intro hq; first | rfl | (go_at_call 52; exact Lib.Held.call hq (end_any _ _ _ q0 q1 q2)) | (have hq' := hq; obtain ⟨hbq, heq, ⟨hkq_0, hlq_0, hzq_0⟩, ⟨hkq_1, hlq_1, hzq_1⟩, ⟨hkq_2, hlq_2, hzq_2⟩, ⟨hkq_3, hlq_3, hzq_3⟩, ⟨hkq_4, hlq_4, hzq_4⟩, ⟨hkq_5, hlq_5, hzq_5⟩, ⟨hkq_6, hlq_6, hzq_6⟩, ⟨hkq_7, hlq_7, hzq_7⟩, _⟩ := hq'; go_simp; rfl))))
    refine wpQuiet_nil ?_
    intro W2 hq2
    obtain ⟨hb2, he2, ⟨hk2_0, hl2_0, hz2_0⟩, ⟨hk2_1, hl2_1, hz2_1⟩, ⟨hk2_2, hl2_2, hz2_2⟩, ⟨hk2_3, hl2_3, hz2_3⟩, ⟨hk2_4, hl2_4, hz2_4⟩, ⟨hk2_5, hl2_5, hz2_5⟩, ⟨hk2_6, hl2_6, hz2_6⟩, ⟨hk2_7, hl2_7, hz2_7⟩, _⟩ := hq2
    have hs2 := he2.size
    try simp only [World.size_alloc, World.size_setCell, World.size_drew] at hs2
    go_wp2_with fail
    go_ret
    exact ⟨i, hi, HLO.out, HHI.out, hb2, by rw [HO.out]; rfl⟩
  have hgt : decide (r.at_ i + (r.len i - 1) - at_ < n - 1) = false := by simp; omega
  have HO := Lib.hid (show okB r k i at_ n = true from by unfold okB Rg.end_; simp [hik, hat, hn1, hle])
  refine Lib.wp_region_class (Lib.Held w _ [(w.heap.size, 0, (.pointer (some ⟨m, 0, none⟩) : Value)), (w.heap.size + 1, 0, (.int .u64 at_ : Value)), (m, 0, (.pointer (some ⟨m, 0, none⟩) : Value)), (m, 1, (.slice (some ⟨g1, 0, none⟩) k c1 : Value)), (m, 2, (.slice A2 k c2 : Value)), (m, 3, (.slice (some ⟨b3, 0, none⟩) n3 c3 : Value)), (g1, i * 2, (.int .u64 (r.at_ i) : Value)), (g1, i * 2 + 1, (.int .u64 (r.len i) : Value))]) (by kernel_rfl) (by kernel_rfl) ⟨by go_grown, Below.refl _ _, ⟨by first | omega | go_size, by first | go_cell | (simp [*]; done), by first | (with_reducible assumption) | (go_simp; done) | (simp [*]; done)⟩, ⟨by first | omega | go_size, by first | go_cell | (simp [*]; done), by first | (with_reducible assumption) | (go_simp; done) | (simp [*]; done)⟩, ⟨by first | omega | go_size, by first | go_cell | (simp [*]; done), by first | (with_reducible assumption) | (go_simp; done) | (simp [*]; done)⟩, ⟨by first | omega | go_size, by first | go_cell | (simp [*]; done), by first | (with_reducible assumption) | (go_simp; done) | (simp [*]; done)⟩, ⟨by first | omega | go_size, by first | go_cell | (simp [*]; done), by first | (with_reducible assumption) | (go_simp; done) | (simp [*]; done)⟩, ⟨by first | omega | go_size, by first | go_cell | (simp [*]; done), by first | (with_reducible assumption) | (go_simp; done) | (simp [*]; done)⟩, ⟨by first | omega | go_size, by first | go_cell | (simp [*]; done), by first | (with_reducible assumption) | (go_simp; done) | (simp [*]; done)⟩, ⟨by first | omega | go_size, by first | go_cell | (simp [*]; done), by first | (with_reducible assumption) | (go_simp; done) | (simp [*]; done)⟩, trivial⟩ ?_
  repeat (first | go_big_quiet_step ((intro hq; first | rfl | (go_at_call 52; exact Lib.Held.call hq (end_any _ _ _ q0 q1 q2)) | (have hq' := hq; obtain ⟨hbq, heq, ⟨hkq_0, hlq_0, hzq_0⟩, ⟨hkq_1, hlq_1, hzq_1⟩, ⟨hkq_2, hlq_2, hzq_2⟩, ⟨hkq_3, hlq_3, hzq_3⟩, ⟨hkq_4, hlq_4, hzq_4⟩, ⟨hkq_5, hlq_5, hzq_5⟩, ⟨hkq_6, hlq_6, hzq_6⟩, ⟨hkq_7, hlq_7, hzq_7⟩, _⟩ := hq'; go_simp; rfl))) | quiet_step ((intro hq; first | rfl | (go_at_call 52; exact Lib.Held.call hq (end_any _ _ _ q0 q1 q2)) | (have hq' := hq; obtain ⟨hbq, heq, ⟨hkq_0, hlq_0, hzq_0⟩, ⟨hkq_1, hlq_1, hzq_1⟩, ⟨hkq_2, hlq_2, hzq_2⟩, ⟨hkq_3, hlq_3, hzq_3⟩, ⟨hkq_4, hlq_4, hzq_4⟩, ⟨hkq_5, hlq_5, hzq_5⟩, ⟨hkq_6, hlq_6, hzq_6⟩, ⟨hkq_7, hlq_7, hzq_7⟩, _⟩ := hq'; go_simp; rfl))))
  refine wpQuiet_nil ?_
  intro W2 hq2
  obtain ⟨hb2, he2, ⟨hk2_0, hl2_0, hz2_0⟩, ⟨hk2_1, hl2_1, hz2_1⟩, ⟨hk2_2, hl2_2, hz2_2⟩, ⟨hk2_3, hl2_3, hz2_3⟩, ⟨hk2_4, hl2_4, hz2_4⟩, ⟨hk2_5, hl2_5, hz2_5⟩, ⟨hk2_6, hl2_6, hz2_6⟩, ⟨hk2_7, hl2_7, hz2_7⟩, _⟩ := hq2
  have hs2 := he2.size
  try simp only [World.size_alloc, World.size_setCell, World.size_drew] at hs2
  go_wp2_with fail
  have d2' : W2.cell? (ad2.add i) = .some (.int .i64 (r.st i)) := by
    have hx := he2.cell (p := ad2.add i) (show (ad2.add i).block < W1.heap.size from by rw [show (ad2.add i).block = ad2.block from by unfold Addr.add; split <;> rfl]; exact hab)
    rw [hx]
    exact d2
  clear d2 hs1 hl1_0_0 hz1_0_0 hk1_0 hl1_1_0 hz1_1_0 hk1_1 hl1_2_0 hz1_2_0 hl1_2_1 hz1_2_1 hl1_2_2 hz1_2_2 hl1_2_3 hz1_2_3 hk1_2
  obtain ⟨fn, hfn⟩ : ∃ x : Nat, r.st i + (at_ - r.at_ i) = (x : Int) := ⟨(r.st i + (at_ - r.at_ i)).toNat, by omega⟩
  obtain ⟨nn, rfl⟩ : ∃ x : Nat, n = (x : Int) := ⟨n.toNat, by omega⟩
  have w3 : IntKind.u64.wrap (at_ - r.at_ i) = at_ - r.at_ i := by rw [IntKind.wrap_u64]; omega
  subst hA2
  go_region
  go_wp2_with fail
  have hz : fn + nn - fn = nn := by omega
  go_ret
  refine ⟨i, hi, HLO.out, HHI.out, hb2.drew, ?_⟩
  rw [HO.out, hfn, if_pos rfl]
  show Ending.returned (Value.slice (some ⟨b3, fn, none⟩) (fn + nn - fn) (c3 - fn)) = Ending.returned (.slice (some ⟨b3, fn, none⟩) nn (c3 - fn))
  rw [hz]

end Go.Proofs.Ytmmgcmbniidieaa.GmFind
