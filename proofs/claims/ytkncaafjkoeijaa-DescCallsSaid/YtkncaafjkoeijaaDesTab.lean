
/- Tables of descriptors: the contract of Table. -/
import Derived.Test.YtkncaafjkoeijaaDesRead
import Derived.OwnWalk
namespace Go.Proofs.Ytkncaafjkoeijaa.DesTab
open Go.RowKit Le Rw DesPut DesRead
set_option linter.unusedVariables false
set_option linter.unusedSimpArgs false

/-- Descriptors by number, and their cells. -/
structure D4 where
  a : Nat → Int
  l : Nat → Int
  f : Nat → Int
  x : Nat → Int
def D4.In (d : D4) (n : Nat) : Prop := ∀ i, i < n → DescIn (d.a i) (d.l i) (d.f i) (d.x i)
def D4.cell (d : D4) (k : Nat) : Value := if k % 4 = 0 then .int .u64 (d.a (k / 4)) else if k % 4 = 1 then .int .u32 (d.l (k / 4)) else if k % 4 = 2 then .int .u16 (d.f (k / 4)) else .int .u16 (d.x (k / 4))
theorem D4.cell0 (d : D4) (i : Nat) : d.cell (i * 4) = .int .u64 (d.a i) := by unfold D4.cell; rw [if_pos (by omega)]; congr 2; omega
theorem D4.cell1 (d : D4) (i : Nat) : d.cell (i * 4 + 1) = .int .u32 (d.l i) := by unfold D4.cell; rw [if_neg (by omega), if_pos (by omega)]; congr 2; omega
theorem D4.cell2 (d : D4) (i : Nat) : d.cell (i * 4 + 2) = .int .u16 (d.f i) := by unfold D4.cell; rw [if_neg (by omega), if_neg (by omega), if_pos (by omega)]; congr 2; omega
theorem D4.cell3 (d : D4) (i : Nat) : d.cell (i * 4 + 3) = .int .u16 (d.x i) := by unfold D4.cell; rw [if_neg (by omega), if_neg (by omega), if_neg (by omega)]; congr 2; omega
/-- The bytes of a table. -/
def D4.byte (d : D4) (k : Nat) : Int := descG (d.a (k / 16)) (d.l (k / 16)) (d.f (k / 16)) (d.x (k / 16)) (k % 16)
def D4.row (d : D4) (n : Nat) : List Value := (List.range (16 * n)).map (u8F d.byte)
theorem D4.row_succ (d : D4) (k : Nat) : d.row (k + 1) = d.row k ++ (List.range 16).map (u8F (descG (d.a k) (d.l k) (d.f k) (d.x k))) := by
  unfold D4.row
  rw [show 16 * (k + 1) = 16 * k + 16 from by omega, List.range_add, List.map_append]
  congr 1
  rw [List.map_map]
  refine List.map_congr_left fun j hj => ?_
  have hj' : j < 16 := List.mem_range.1 hj
  simp only [Function.comp_apply, u8F, D4.byte]
  rw [show (16 * k + j) / 16 = k from by omega, show (16 * k + j) % 16 = j from by omega]

theorem u8info : (Try.prog.info? 5).map (fun i => (i.zero, i.size, i.bytes)) = some (some (.int .u8 0), 1, 1) := by kernel_rfl

set_option maxRecDepth 100000 in
set_option maxHeartbeats 1000000 in
theorem table_any (A : Option Addr) (n c : Nat) (d : D4) (w : World) (hn : n ≤ 1000000) (hd : d.In n) (hr : IsRow w w.heap.size 4 A n d.cell) :
    Calls Try.prog 54 #[.slice A n c] w fun e w' => ∃ g cap, e = .returned (.slice (some ⟨g, 0, none⟩) (16 * n) cap) ∧ w'.ownsRow w.heap.size 5 1 (.slice (some ⟨g, 0, none⟩) (16 * n) cap) (16 * n) (d.row n) ∧ Below w.heap.size w w' := by
  obtain ⟨i0, hi, hz0, hz1, hz2⟩ := info_parts u8info
  have H0 := Lib.hid hi
  have H1 := Lib.hid hz0
  have H2 := Lib.hid hz1
  have H3 := Lib.hid hz2
  clear hi hz0 hz1 hz2
  go_enter Try.func54, Try.ntmps54
  go_wp2_with (at_make; refine wpList_make_own _ rfl _ _ 37 rfl w.heap.size 5 i0 (.int .u8 0) 1 Try.underlying37 H0.out H1.out H2.out _ _ _ (16 * n) rfl rfl (by omega) (by rw [H3.out]; omega) (by unfold maxLen; omega) (Nat.le_refl _) ?_)
  intro w1 hown1 hg1
  go_wp2_with fail
  go_loopw [3, 13] (fun v i wr => ∃ k : Nat, k ≤ n ∧ i = .int .i64 k ∧ v = .slice (some ⟨w.heap.size, 0, none⟩) (16 * k) (16 * n) ∧ wr.ownsRow w.heap.size 5 1 (.slice (some ⟨w.heap.size, 0, none⟩) (16 * k) (16 * n)) (16 * k) (d.row k) ∧ (∃ f0, wr.rowIs w1.heap.size 128 16 f0) ∧ Below w.heap.size w wr) (fun v i wr => n - (intOf i).toNat)
  case atStart => exact ⟨0, by omega, rfl, rfl, hown1.alloc _, ⟨_, zero16 w1⟩, ((Below.refl _ w).grown hg1 (Nat.le_refl _) (fun k e => by cases e)).alloc hg1.size _⟩
  case round =>
    obtain ⟨k, hk, rfl, rfl, hown, ⟨f0, hrow⟩, hb⟩ := hrel
    have hs1 := (hown1.lt _ rfl).2
    have hsz := hrow.lt
    by_cases hlt : k < n
    · obtain ⟨ad, rfl, hbl, hcell⟩ := hr (by omega)
      have hcw : ∀ j, j < n * 4 → wr.cell? (ad.add j) = some (d.cell j) := fun j hj => (hb.cell (p := ad.add j) (by rw [block_of_add]; exact hbl)).trans (hcell j hj)
      have c0 : wr.cell? (ad.add (k * 4)) = some (.int .u64 (d.a k)) := (el0 hcw hlt (by omega)).trans (by rw [D4.cell0])
      have c1 : wr.cell? ⟨(ad.add (k * 4)).block, (ad.add (k * 4)).off + 1, none⟩ = some (.int .u32 (d.l k)) := (elj hcw hlt 1 (by omega) (by omega)).trans (by rw [D4.cell1])
      have c2 : wr.cell? ⟨(ad.add (k * 4)).block, (ad.add (k * 4)).off + 2, none⟩ = some (.int .u16 (d.f k)) := (elj hcw hlt 2 (by omega) (by omega)).trans (by rw [D4.cell2])
      have c3 : wr.cell? ⟨(ad.add (k * 4)).block, (ad.add (k * 4)).off + 3, none⟩ = some (.int .u16 (d.x k)) := (elj hcw hlt 3 (by omega) (by omega)).trans (by rw [D4.cell3])
      have hdk := hd k hlt
      clear hcw hcell
      go_wp2_with fail
      clear c0 c1 c2 c3
      (with_reducible refine (setDesc_any _ (d.a k) (d.l k) (d.f k) (d.x k) _ _ hdk (hrow.alloc _)).mono ?_)
      rintro e W2 ⟨rfl, r2, g2⟩
      have z2 := g2.size
      rw [World.size_alloc] at z2
      have hown2 := (hown.alloc (.cells #[.int .u64 (d.a k), .int .u32 (d.l k), .int .u16 (d.f k), .int .u16 (d.x k)] 62)).kept g2 (.inr (by simp [Value.ownBlock]; omega))
      go_wp2_with (at_builtin; refine wpList_append_fits _ rfl _ _ 37 rfl w.heap.size 5 i0 1 Try.underlying37 H0.out H2.out w.heap.size (16 * k) (16 * n) (d.row k) rfl hown2 ⟨w1.heap.size, 0, none⟩ 16 16 ((List.range 16).map (u8F (descG (d.a k) (d.l k) (d.f k) (d.x k)))) rfl rfl (rowIs_cells r2 (Nat.le_refl _)) (by simp [u8F, Value.oneCell']) (by omega) ?_)
      intro W3 hown3 g3
      have hb2 : Below w.heap.size w W2 := below_only (hb.alloc hb.size _) g2 (by simp; omega) (by omega)
      have hb3 : Below w.heap.size w W3 := below_only hb2 g3 (by omega) (Nat.le_refl _)
      have r3 := r2.of_block (g3.block w1.heap.size (by omega) (by simp; omega))
      have hown4 : W3.ownsRow w.heap.size 5 1 (.slice (some ⟨w.heap.size, 0, none⟩) (16 * k + 16) (16 * n)) (16 * k + 16) (d.row (k + 1)) := by rw [D4.row_succ]; exact hown3
      clear hown3
      go_wp2_with fail
      go_roundw
      case rel => exact ⟨k + 1, by omega, by go_num, by rw [show 16 * (k + 1) = 16 * k + 16 from by omega], hown4, ⟨_, r3⟩, hb3⟩
      case measure => simp [intOf]; omega
    · obtain rfl : k = n := by omega
      go_wp2_with fail
      go_ret
      exact ⟨_, _, rfl, hown, hb⟩

end Go.Proofs.Ytkncaafjkoeijaa.DesTab
