
/- Memory in regions: Read, Write, Image. -/
import Derived.Test.YtmmgcmbniidieaaGmCopy
namespace Go.Proofs.Ytmmgcmbniidieaa.GmRead
open Go.RowKit Rw GmFind GmWord GmLoad GmCopy
set_option linter.unusedVariables false
set_option linter.unusedSimpArgs false

set_option maxRecDepth 100000 in
set_option maxHeartbeats 2000000 in
theorem read_neg (m : Nat) (at_ n : Int) (w : World) (h : w.cell? ⟨m, 0, none⟩ = some (.pointer (some ⟨m, 0, none⟩))) (hn : n < 0) :
    Calls Try.prog 18 #[.pointer (some ⟨m, 0, none⟩), .int .u64 at_, .int .i64 n] w (Gives w.heap.size w (.tuple #[.slice none 0 0, .int .i64 2])) := by
  go_enter Try.func18, Try.ntmps18
  go_wp2_with fail
  refine (valid_any m _ h).mono ?_
  rintro e W ⟨rfl, rfl⟩
  go_wp2_with fail
  go_returns
  exact ⟨rfl, by go_grown⟩

set_option maxRecDepth 100000 in
set_option maxHeartbeats 2000000 in
theorem read_zero (m : Nat) (at_ : Int) (w : World) (h : w.cell? ⟨m, 0, none⟩ = some (.pointer (some ⟨m, 0, none⟩))) :
    Calls Try.prog 18 #[.pointer (some ⟨m, 0, none⟩), .int .u64 at_, .int .i64 0] w (Gives w.heap.size w (.tuple #[.slice none 0 0, .int .i64 0])) := by
  go_enter Try.func18, Try.ntmps18
  go_wp2_with fail
  refine (valid_any m _ h).mono ?_
  rintro e W ⟨rfl, rfl⟩
  go_wp2_with fail
  go_returns
  exact ⟨rfl, by go_grown⟩

set_option maxRecDepth 100000 in
set_option maxHeartbeats 4000000 in
theorem read_out (k m g1 b3 : Nat) (at_ n : Int) {A2 : Option Addr} {c1 c2 n3 c3 : Nat} (r : Rg) (w : World) (hk : k ≤ 1000000) (hr : r.In k) (hf : r.Fits k n3) (hn3 : n3 ≤ c3) (hn3' : n3 ≤ 1000000000) (h : MemAt w m k g1 A2 (some ⟨b3, 0, none⟩) c1 c2 n3 c3 r)
    (ha0 : 0 ≤ at_) (ha1 : at_ ≤ 18446744073709551615) (hn0 : 1 ≤ n) (hn1 : n ≤ 9223372036854775807) (ho : place r k at_ n = none) :
    Calls Try.prog 18 #[.pointer (some ⟨m, 0, none⟩), .int .u64 at_, .int .i64 n] w (Gives w.heap.size w (.tuple #[.slice none 0 0, .int .i64 5])) := by
  have hself := h.self
  have HF := Lib.hid (find_of k m g1 b3 at_ n r w hk hr hf hn3 hn3' h ha0 ha1 (by omega) (by omega))
  rw [ho] at HF
  clear hf h hr
  go_enter Try.func18, Try.ntmps18
  have hq1 := fun W a n c => Lib.run_eql_slice_nil (P := Try.prog) W 37 5 a n c 0 0 Try.underlying37
  go_wp2_with fail
  refine (valid_any m _ hself).mono ?_
  rintro e W ⟨rfl, rfl⟩
  go_wp2_with fail
  refine HF.out.mono ?_
  rintro e W1 ⟨he, hb1⟩
  obtain rfl : e = .returned (.slice none 0 0) := he
  go_wp2_with fail
  go_returns
  exact ⟨rfl, by go_grown⟩

set_option maxRecDepth 100000 in
set_option maxHeartbeats 4000000 in
theorem read_yes (k m g1 b3 : Nat) (at_ n : Int) {A2 : Option Addr} {c1 c2 n3 c3 o : Nat} (r : Rg) (g : Nat → Int) (w : World) (hk : k ≤ 1000000) (hr : r.In k) (hf : r.Fits k n3) (hn3 : n3 ≤ c3) (hn3' : n3 ≤ 1000000000) (h : MemAt w m k g1 A2 (some ⟨b3, 0, none⟩) c1 c2 n3 c3 r)
    (hby : By w b3 n3 g) (hb3 : b3 < w.heap.size)
    (ha0 : 0 ≤ at_) (ha1 : at_ ≤ 18446744073709551615) (hn0 : 1 ≤ n) (hn1 : n ≤ 9223372036854775807) (ho : place r k at_ n = some o) :
    Calls Try.prog 18 #[.pointer (some ⟨m, 0, none⟩), .int .u64 at_, .int .i64 n] w fun e w' => ∃ b, e = .returned (.tuple #[.slice (some ⟨b, 0, none⟩) n.toNat n.toNat, .int .i64 0]) ∧ w.heap.size ≤ b ∧ w'.rowIs b 5 n.toNat (fun j => .int .u8 (g (o + j))) ∧ Below w.heap.size w w' := by
  have hself := h.self
  have HF := Lib.hid (find_of k m g1 b3 at_ n r w hk hr hf hn3 hn3' h ha0 ha1 (by omega) (by omega))
  rw [ho] at HF
  obtain ⟨hfit, _⟩ := place_fits hf ho
  obtain ⟨N, rfl⟩ : ∃ N : Nat, n = (N : Int) := ⟨n.toNat, by omega⟩
  clear hf h hr ho
  go_enter Try.func18, Try.ntmps18
  have hq1 := fun W a n c => Lib.run_eql_slice_nil (P := Try.prog) W 37 5 a n c 0 0 Try.underlying37
  go_wp2_with fail
  refine (valid_any m _ hself).mono ?_
  rintro e W ⟨rfl, rfl⟩
  go_wp2_with fail
  refine HF.out.mono ?_
  rintro e W1 ⟨he, hb1⟩
  obtain rfl : e = .returned (.slice (some ⟨b3, o, none⟩) N (c3 - o)) := he
  clear HF
  have hs1 := hb1.size
  have HC := Lib.hid (show By W1 b3 n3 g from fun j hj => (hb1.cell (p := ⟨b3, j, none⟩) hb3).trans (hby j hj))
  clear hby
  go_wp2_with fail
  refine (copied_u8 _ N _ (fun j => g (o + j)) _ (by omega) (show IsRow W1 W1.heap.size 1 (some ⟨b3, o, none⟩) N _ from fun _ => ⟨⟨b3, o, none⟩, rfl, Nat.lt_of_lt_of_le hb3 hs1, fun j hj => ?_⟩)).mono ?_
  · have := HC.out (o + j) (by omega)
    show W1.cell? ((⟨b3, o, none⟩ : Addr).add j) = _
    rw [show (⟨b3, o, none⟩ : Addr).add j = ⟨b3, o + j, none⟩ from by unfold Addr.add; split <;> simp_all]
    exact this
  rintro e W2 ⟨b, rfl, hbb, hrow, hb2⟩
  go_wp2_with fail
  go_returns
  exact ⟨b, rfl, by omega, hrow, hb1.trans (hb2.mono hs1)⟩

set_option maxRecDepth 100000 in
set_option maxHeartbeats 2000000 in
theorem image_any (m n c : Nat) (A : Option Addr) (g : Nat → Int) (w : World) (hn : n ≤ 1000000000) (h : w.cell? ⟨m, 0, none⟩ = some (.pointer (some ⟨m, 0, none⟩))) (h3 : w.cell? ⟨m, 3, none⟩ = some (.slice A n c)) (hrow : IsRow w w.heap.size 1 A n (fun j => .int .u8 (g j))) :
    Calls Try.prog 25 #[.pointer (some ⟨m, 0, none⟩)] w fun e w' => ∃ b, e = .returned (.slice (some ⟨b, 0, none⟩) n n) ∧ w.heap.size ≤ b ∧ w'.rowIs b 5 n (fun j => .int .u8 (g j)) ∧ Below w.heap.size w w' := by
  have HR := Lib.hid hrow
  clear hrow
  go_enter Try.func25, Try.ntmps25
  go_wp2_with fail
  refine (valid_any m _ h).mono ?_
  rintro e W ⟨rfl, rfl⟩
  go_wp2_with fail
  refine (copied_u8 _ n _ g _ hn HR.out).mono ?_
  rintro e W2 ⟨b, rfl, hbb, hrow, hb2⟩
  go_wp2_with fail
  go_ret
  exact ⟨b, rfl, hbb, hrow, hb2⟩

end Go.Proofs.Ytmmgcmbniidieaa.GmRead
