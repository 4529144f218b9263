
/- A memory without regions, and what a memory's Regions are. -/
import Derived.Test.YtmmgcmbniidieaaGmNew0
import Derived.Test.YtmmgcmbniidieaaGmLoad
import Derived.Test.YtmmgcmbniidieaaGmRead
import Derived.Test.YtmmgcmbniidieaaGmWrite
namespace Go.Proofs.Ytmmgcmbniidieaa.GmZero
open Go.RowKit Rw GmFind GmWord GmCheck GmCopyR GmNew GmNew0
set_option linter.unusedVariables false
set_option linter.unusedSimpArgs false

abbrev Mem0 (w : World) (m g1 : Nat) (r : Rg) : Prop := MemAt w m 0 g1 none none 0 0 0 0 r
set_option maxRecDepth 100000 in
set_option maxHeartbeats 4000000 in
theorem word0 (m g1 : Nat) (at_ nb : Int) (r : Rg) (w : World) (h : Mem0 w m g1 r) (hn : nb = 1 ∨ nb = 2 ∨ nb = 4 ∨ nb = 8) :
    Calls Try.prog 53 #[.pointer (some ⟨m, 0, none⟩), .int .u64 at_, .int .i64 nb] w (GmWord.Gives w.heap.size w (.tuple #[.slice none 0 0, .int .i64 5])) := by
  unfold GmWord.Gives
  have hself := h.self
  have HF := Lib.hid (find_none m g1 at_ nb r w h)
  clear h
  rcases hn with rfl | rfl | rfl | rfl
  all_goals
    go_enter Try.func53, Try.ntmps53
    have hq1 := fun W a n c => Lib.run_eql_slice_nil (P := Try.prog) W 37 5 a n c 0 0 Try.underlying37
    go_wp2_with fail
    refine (valid_any m _ hself).mono ?_
    rintro e W ⟨rfl, rfl⟩
    go_wp2_with fail
    refine HF.out.mono ?_
    rintro e W1 ⟨rfl, hb1⟩
    go_wp2_with fail
    go_returns
    exact ⟨rfl, by go_grown⟩
set_option maxRecDepth 100000 in
set_option maxHeartbeats 4000000 in
theorem load0 (m g1 : Nat) (at_ nb : Int) (r : Rg) (w : World) (h : Mem0 w m g1 r) (hn : nb = 1 ∨ nb = 2 ∨ nb = 4 ∨ nb = 8) :
    Calls Try.prog 14 #[.pointer (some ⟨m, 0, none⟩), .int .u64 at_, .int .i64 nb] w (GmWord.Gives w.heap.size w (.tuple #[.int .u64 0, .int .i64 5])) := by
  unfold GmWord.Gives
  have HF := Lib.hid (word0 m g1 at_ nb r w h hn)
  clear h hn
  go_enter Try.func14, Try.ntmps14
  go_wp2_with fail
  refine HF.out.mono ?_
  rintro e W1 ⟨rfl, hb1⟩
  go_wp2_with fail
  go_returns
  exact ⟨rfl, by go_grown⟩
set_option maxRecDepth 100000 in
set_option maxHeartbeats 4000000 in
theorem store0 (m g1 : Nat) (at_ nb v : Int) (r : Rg) (w : World) (h : Mem0 w m g1 r) (hn : nb = 1 ∨ nb = 2 ∨ nb = 4 ∨ nb = 8) :
    Calls Try.prog 16 #[.pointer (some ⟨m, 0, none⟩), .int .u64 at_, .int .i64 nb, .int .u64 v] w (GmWord.Gives w.heap.size w (.int .i64 5)) := by
  unfold GmWord.Gives
  have HF := Lib.hid (word0 m g1 at_ nb r w h hn)
  clear h hn
  go_enter Try.func16, Try.ntmps16
  go_wp2_with fail
  refine HF.out.mono ?_
  rintro e W1 ⟨rfl, hb1⟩
  go_wp2_with fail
  go_ret
  exact ⟨rfl, by go_grown⟩
set_option maxRecDepth 100000 in
set_option maxHeartbeats 4000000 in
theorem read0 (m g1 : Nat) (at_ n : Int) (r : Rg) (w : World) (h : Mem0 w m g1 r) (hn0 : 1 ≤ n) (hn1 : n ≤ 9223372036854775807) :
    Calls Try.prog 18 #[.pointer (some ⟨m, 0, none⟩), .int .u64 at_, .int .i64 n] w (GmWord.Gives w.heap.size w (.tuple #[.slice none 0 0, .int .i64 5])) := by
  unfold GmWord.Gives
  have hself := h.self
  have HF := Lib.hid (find_none m g1 at_ n r w h)
  clear h
  go_enter Try.func18, Try.ntmps18
  have hq1 := fun W a n c => Lib.run_eql_slice_nil (P := Try.prog) W 37 5 a n c 0 0 Try.underlying37
  go_wp2_with fail
  refine (valid_any m _ hself).mono ?_
  rintro e W ⟨rfl, rfl⟩
  go_wp2_with fail
  refine HF.out.mono ?_
  rintro e W1 ⟨rfl, hb1⟩
  go_wp2_with fail
  go_returns
  exact ⟨rfl, by go_grown⟩
set_option maxRecDepth 100000 in
set_option maxHeartbeats 4000000 in
theorem write0 (m g1 N c : Nat) (A : Option Addr) (at_ : Int) (r : Rg) (w : World) (h : Mem0 w m g1 r) (hn0 : 1 ≤ N) (hn1 : N ≤ 9223372036854775807) :
    Calls Try.prog 20 #[.pointer (some ⟨m, 0, none⟩), .int .u64 at_, .slice A N c] w (GmWord.Gives w.heap.size w (.int .i64 5)) := by
  unfold GmWord.Gives
  have hself := h.self
  have HF := Lib.hid (find_none m g1 at_ N r w h)
  clear h
  go_enter Try.func20, Try.ntmps20
  have hq1 := fun W a n c => Lib.run_eql_slice_nil (P := Try.prog) W 37 5 a n c 0 0 Try.underlying37
  go_wp2_with fail
  refine (valid_any m _ hself).mono ?_
  rintro e W ⟨rfl, rfl⟩
  go_wp2_with fail
  refine HF.out.mono ?_
  rintro e W1 ⟨rfl, hb1⟩
  go_wp2_with fail
  go_ret
  exact ⟨rfl, by go_grown⟩

/-- A list of regions of its own. -/
def RgP (k : Nat) (r : Rg) (w : World) (e : Ending) (w' : World) : Prop := ∃ (A : Option Addr) (c : Nat), e = .returned (.slice A k c) ∧ Lst w' w'.heap.size A k r ∧ Below w.heap.size w w'
set_option maxRecDepth 100000 in
set_option maxHeartbeats 4000000 in
theorem regions_is (m k g1 : Nat) {A2 A3 : Option Addr} {c1 c2 n3 c3 : Nat} (r : Rg) (w : World) (hk : k ≤ 1000000) (h : MemAt w m k g1 A2 A3 c1 c2 n3 c3 r) :
    Calls Try.prog 28 #[.pointer (some ⟨m, 0, none⟩)] w (RgP k r w) := by
  unfold RgP
  have hself := h.self
  have hregs := h.regs
  have HL := Lib.hid (show Lst w w.heap.size (some ⟨g1, 0, none⟩) k r from fun _ => ⟨_, rfl, h.lt1, fun j hj => by
    have e : (⟨g1, 0, none⟩ : Addr).add j = ⟨g1, j, none⟩ := by unfold Addr.add; split <;> simp_all
    rw [e]; exact h.row1 j hj⟩)
  clear h
  by_cases h0 : 0 < k
  · go_enter Try.func28, Try.ntmps28
    go_wp2_with fail
    refine (valid_any m _ hself).mono ?_
    rintro e W ⟨rfl, rfl⟩
    go_wp2_with fail
    refine (copied_rg _ k _ r _ h0 hk HL.out).mono ?_
    rintro e W2 ⟨b, rfl, hbb, hrow, hb2⟩
    go_wp2_with fail
    go_ret
    exact ⟨_, _, rfl, IsRow.of_rowIs (c := k) hrow (Nat.le_refl _), hb2⟩
  · obtain rfl : k = 0 := by omega
    go_enter Try.func28, Try.ntmps28
    go_wp2_with fail
    refine (valid_any m _ hself).mono ?_
    rintro e W ⟨rfl, rfl⟩
    go_wp2_with fail
    refine (copied_rg0 _ _ _).mono ?_
    rintro e W2 ⟨b, rfl, hbb, _, _, hb2⟩
    go_wp2_with fail
    go_ret
    exact ⟨_, _, rfl, fun h => absurd h (by decide), hb2⟩

end Go.Proofs.Ytmmgcmbniidieaa.GmZero
