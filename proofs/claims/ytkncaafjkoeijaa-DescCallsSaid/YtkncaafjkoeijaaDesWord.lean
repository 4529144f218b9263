
/- Words of used elements and events; lists that are the same. -/
import Derived.Test.YtkncaafjkoeijaaDesRT
import Derived.BigQuiet
namespace Go.Proofs.Ytkncaafjkoeijaa.DesWord
open Go.RowKit Le Rw DesPut DesTab
set_option linter.unusedVariables false
set_option linter.unusedSimpArgs false

theorem or32 (a x : Int) (ha : 0 ≤ a) (ha2 : a ≤ 4294967295) (hx : 0 ≤ x) (hx2 : x ≤ 4294967295) : bits .or .u64 a (x * 4294967296) = a + x * 4294967296 := by
  rw [u64_or a _ ha (by omega) (by omega) (by omega)]
  obtain ⟨A, rfl⟩ := Int.eq_ofNat_of_zero_le ha
  obtain ⟨X, rfl⟩ := Int.eq_ofNat_of_zero_le hx
  rw [show ((X : Int) * 4294967296) = ((X * 2 ^ 32 : Nat) : Int) from by omega, Int.toNat_natCast, Int.toNat_natCast, Nat.or_comm, nat_join 32 _ _ (Nat.mul_mod_left _ _) (by omega)]
  omega
theorem or16 (a x : Int) (ha : 0 ≤ a) (ha2 : a ≤ 65535) (hx : 0 ≤ x) (hx2 : x ≤ 65535) : bits .or .u64 a (x * 65536) = a + x * 65536 := by
  rw [u64_or a _ ha (by omega) (by omega) (by omega)]
  obtain ⟨A, rfl⟩ := Int.eq_ofNat_of_zero_le ha
  obtain ⟨X, rfl⟩ := Int.eq_ofNat_of_zero_le hx
  rw [show ((X : Int) * 65536) = ((X * 2 ^ 16 : Nat) : Int) from by omega, Int.toNat_natCast, Int.toNat_natCast, Nat.or_comm, nat_join 16 _ _ (Nat.mul_mod_left _ _) (by omega)]
  omega

theorem usedWord_any (i n : Int) (hi : 0 ≤ i) (hi2 : i ≤ 4294967295) (hn : 0 ≤ n) (hn2 : n ≤ 4294967295) (w : World) : Calls Try.prog 50 #[.agg #[.int .u32 i, .int .u32 n]] w (Gives w.heap.size w (.int .u64 (i + n * 4294967296))) := by
  unfold Gives
  go_enter Try.func50, Try.ntmps50
  go_wp2
  go_ret
  exact ⟨by rw [← or32 i n hi hi2 hn hn2]; simp, by go_grown⟩
theorem eventWord_any (i n : Int) (hi : 0 ≤ i) (hi2 : i ≤ 65535) (hn : 0 ≤ n) (hn2 : n ≤ 65535) (w : World) : Calls Try.prog 52 #[.agg #[.int .u16 i, .int .u16 n]] w (Gives w.heap.size w (.int .u64 (i + n * 65536))) := by
  unfold Gives
  go_enter Try.func52, Try.ntmps52
  go_wp2
  go_ret
  exact ⟨by rw [← or16 i n hi hi2 hn hn2]; simp, by go_grown⟩
theorem readUsed_any (v : Int) (h0 : 0 ≤ v) (h1 : v ≤ 18446744073709551615) (w : World) : Calls Try.prog 48 #[.int .u64 v] w (Gives w.heap.size w (.agg #[.int .u32 (v % 4294967296), .int .u32 (v / 4294967296)])) := by
  unfold Gives
  have h2 : 0 ≤ v / 4294967296 := by omega
  have h3 : v / 4294967296 ≤ 4294967295 := by omega
  go_enter Try.func48, Try.ntmps48
  go_wp2
  go_returns
  exact ⟨rfl, by go_grown⟩
theorem readEvent_any (v : Int) (h0 : 0 ≤ v) (h1 : v ≤ 18446744073709551615) (w : World) : Calls Try.prog 49 #[.int .u64 v] w (Gives w.heap.size w (.agg #[.int .u16 (v % 65536), .int .u16 (v / 65536 % 65536)])) := by
  unfold Gives
  have h2 : 0 ≤ v / 65536 := by omega
  go_enter Try.func49, Try.ntmps49
  go_wp2
  go_returns
  exact ⟨rfl, by go_grown⟩

set_option maxRecDepth 100000 in
set_option maxHeartbeats 1000000 in
theorem same_any (A1 A2 : Option Addr) (n c1 c2 : Nat) (d : D4) (w : World) (hn : n ≤ 9223372036854775807) (h1 : IsRow w w.heap.size 4 A1 n d.cell) (h2 : IsRow w w.heap.size 4 A2 n d.cell) :
    Calls Try.prog 41 #[.slice A1 n c1, .slice A2 n c2] w fun e w' => e = .returned (.bool true) ∧ Below w.heap.size w w' := by
  go_enter Try.func41, Try.ntmps41
  go_wp2
  go_loopw [5] (fun i wr => ∃ k : Nat, k ≤ n ∧ i = .int .i64 k ∧ Below w.heap.size w wr) (fun i wr => n - (intOf i).toNat)
  case atStart => exact ⟨0, by omega, rfl, Below.refl _ _⟩
  case round =>
    obtain ⟨k, hk, rfl, hb⟩ := hrel
    by_cases hlt : k < n
    · obtain ⟨a1, rfl, hb1, hc1⟩ := h1 (by omega)
      obtain ⟨a2, rfl, hb2, hc2⟩ := h2 (by omega)
      have hw1 : ∀ j, j < n * 4 → wr.cell? (a1.add j) = some (d.cell j) := fun j hj => (hb.cell (p := a1.add j) (by rw [block_of_add]; exact hb1)).trans (hc1 j hj)
      have hw2 : ∀ j, j < n * 4 → wr.cell? (a2.add j) = some (d.cell j) := fun j hj => (hb.cell (p := a2.add j) (by rw [block_of_add]; exact hb2)).trans (hc2 j hj)
      have c0 : wr.cell? (a1.add (k * 4)) = some (.int .u64 (d.a k)) := (el0 hw1 hlt (by omega)).trans (by rw [D4.cell0])
      have c1 : wr.cell? ⟨(a1.add (k * 4)).block, (a1.add (k * 4)).off + 1, none⟩ = some (.int .u32 (d.l k)) := (elj hw1 hlt 1 (by omega) (by omega)).trans (by rw [D4.cell1])
      have c2 : wr.cell? ⟨(a1.add (k * 4)).block, (a1.add (k * 4)).off + 2, none⟩ = some (.int .u16 (d.f k)) := (elj hw1 hlt 2 (by omega) (by omega)).trans (by rw [D4.cell2])
      have c3 : wr.cell? ⟨(a1.add (k * 4)).block, (a1.add (k * 4)).off + 3, none⟩ = some (.int .u16 (d.x k)) := (elj hw1 hlt 3 (by omega) (by omega)).trans (by rw [D4.cell3])
      have e0 : wr.cell? (a2.add (k * 4)) = some (.int .u64 (d.a k)) := (el0 hw2 hlt (by omega)).trans (by rw [D4.cell0])
      have e1 : wr.cell? ⟨(a2.add (k * 4)).block, (a2.add (k * 4)).off + 1, none⟩ = some (.int .u32 (d.l k)) := (elj hw2 hlt 1 (by omega) (by omega)).trans (by rw [D4.cell1])
      have e2 : wr.cell? ⟨(a2.add (k * 4)).block, (a2.add (k * 4)).off + 2, none⟩ = some (.int .u16 (d.f k)) := (elj hw2 hlt 2 (by omega) (by omega)).trans (by rw [D4.cell2])
      have e3 : wr.cell? ⟨(a2.add (k * 4)).block, (a2.add (k * 4)).off + 3, none⟩ = some (.int .u16 (d.x k)) := (elj hw2 hlt 3 (by omega) (by omega)).trans (by rw [D4.cell3])
      clear hw1 hw2 hc1 hc2
      go_wp2
      go_region
      go_wp2
      go_roundw
      case rel => exact ⟨k + 1, by omega, by go_num, hb.drew⟩
      case measure => simp [intOf]; omega
    · obtain rfl : k = n := by omega
      go_wp2
      go_ret
      exact ⟨rfl, hb⟩

end Go.Proofs.Ytkncaafjkoeijaa.DesWord
