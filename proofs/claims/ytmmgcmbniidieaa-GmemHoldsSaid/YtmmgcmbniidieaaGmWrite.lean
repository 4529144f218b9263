
/- Memory in regions: Write. -/
import Derived.Test.YtmmgcmbniidieaaGmRead
namespace Go.Proofs.Ytmmgcmbniidieaa.GmWrite
open Go.RowKit Rw GmFind GmWord GmLoad GmCopy
set_option linter.unusedVariables false
set_option linter.unusedSimpArgs false

/-- The cells with bytes written. -/
def wrF (F : Nat → Value) (o n : Nat) (gb : Nat → Int) : Nat → Value := fun j => if o ≤ j ∧ j < o + n then .int .u8 (gb (j - o)) else F j

set_option maxRecDepth 100000 in
set_option maxHeartbeats 2000000 in
theorem write_zero (m c : Nat) (A : Option Addr) (at_ : Int) (w : World) (h : w.cell? ⟨m, 0, none⟩ = some (.pointer (some ⟨m, 0, none⟩))) :
    Calls Try.prog 20 #[.pointer (some ⟨m, 0, none⟩), .int .u64 at_, .slice A 0 c] w (Gives w.heap.size w (.int .i64 0)) := by
  go_enter Try.func20, Try.ntmps20
  go_wp2_with fail
  refine (valid_any m _ h).mono ?_
  rintro e W ⟨rfl, rfl⟩
  go_wp2_with fail
  go_ret
  exact ⟨rfl, by go_grown⟩

set_option maxRecDepth 100000 in
set_option maxHeartbeats 4000000 in
theorem write_out (k m g1 b3 N c : Nat) (A : Option Addr) (at_ : Int) {A2 : Option Addr} {c1 c2 n3 c3 : Nat} (r : Rg) (w : World) (hk : k ≤ 1000000) (hr : r.In k) (hf : r.Fits k n3) (hn3 : n3 ≤ c3) (hn3' : n3 ≤ 1000000000) (h : MemAt w m k g1 A2 (some ⟨b3, 0, none⟩) c1 c2 n3 c3 r)
    (ha0 : 0 ≤ at_) (ha1 : at_ ≤ 18446744073709551615) (hn0 : 1 ≤ N) (hn1 : N ≤ 9223372036854775807) (ho : place r k at_ N = none) :
    Calls Try.prog 20 #[.pointer (some ⟨m, 0, none⟩), .int .u64 at_, .slice A N c] w (Gives w.heap.size w (.int .i64 5)) := by
  have hself := h.self
  have HF := Lib.hid (find_of k m g1 b3 at_ N r w hk hr hf hn3 hn3' h ha0 ha1 (by omega) (by omega))
  rw [ho] at HF
  clear hf h hr
  go_enter Try.func20, Try.ntmps20
  have hq1 := fun W a n c => Lib.run_eql_slice_nil (P := Try.prog) W 37 5 a n c 0 0 Try.underlying37
  go_wp2_with fail
  refine (valid_any m _ hself).mono ?_
  rintro e W ⟨rfl, rfl⟩
  go_wp2_with fail
  refine HF.out.mono ?_
  rintro e W1 ⟨he, hb1⟩
  obtain rfl : e = .returned (.slice none 0 0) := he
  go_wp2_with fail
  go_ret
  exact ⟨rfl, by go_grown⟩

set_option maxRecDepth 100000 in
set_option maxHeartbeats 4000000 in
theorem write_yes (k m g1 b3 N c M o : Nat) (t : TypeId) (A : Option Addr) (at_ : Int) {A2 : Option Addr} {c1 c2 n3 c3 : Nat} (r : Rg) (F : Nat → Value) (gb : Nat → Int) (w : World) (hk : k ≤ 1000000) (hr : r.In k) (hf : r.Fits k n3) (hn3 : n3 ≤ c3) (hn3' : n3 ≤ 1000000000) (h : MemAt w m k g1 A2 (some ⟨b3, 0, none⟩) c1 c2 n3 c3 r)
    (hM : n3 ≤ M) (hrow : w.rowIs b3 t M F) (hsrc : IsRow w w.heap.size 1 A N (fun j => .int .u8 (gb j)))
    (ha0 : 0 ≤ at_) (ha1 : at_ ≤ 18446744073709551615) (hn0 : 1 ≤ N) (hn1 : N ≤ 9223372036854775807) (ho : place r k at_ N = some o) :
    Calls Try.prog 20 #[.pointer (some ⟨m, 0, none⟩), .int .u64 at_, .slice A N c] w fun e w' => e = .returned (.int .i64 0) ∧ w'.rowIs b3 t M (wrF F o N gb) ∧ w.grownBy w' (some b3) := by
  have hself := h.self
  have HF := Lib.hid (find_of k m g1 b3 at_ N r w hk hr hf hn3 hn3' h ha0 ha1 (by omega) (by omega))
  rw [ho] at HF
  obtain ⟨hfit, _⟩ := place_fits hf ho
  clear hf h hr
  go_enter Try.func20, Try.ntmps20
  have hq1 := fun W a n c => Lib.run_eql_slice_nil (P := Try.prog) W 37 5 a n c 0 0 Try.underlying37
  go_wp2_with fail
  refine (valid_any m _ hself).mono ?_
  rintro e W ⟨rfl, rfl⟩
  go_wp2_with fail
  refine HF.out.mono ?_
  rintro e W1 ⟨he, hb1⟩
  obtain rfl : e = .returned (.slice (some ⟨b3, o, none⟩) N (c3 - o)) := he
  clear HF
  have hrow1 := hrow.of_block (hb1.block b3 hrow.lt)
  have hg1 := only_of_below hb1 (some b3)
  obtain ⟨ad, rfl, had, hc⟩ := hsrc (by omega)
  obtain ⟨cur, hh, hsz, hcur⟩ := hrow1
  obtain ⟨cs, hcs⟩ : ∃ cs : List Value, (List.range N).map (fun j => Value.int .u8 (gb j)) = cs := ⟨_, rfl⟩
  have hlen : cs.length = N := by rw [← hcs]; simp
  have HCS := Lib.hid hcs
  have E1 := Lib.hid (show (Try.prog.info? 5).map (·.size) = some 1 from by kernel_rfl)
  have E2 := Lib.hid hh
  have E3 := Lib.hid (show cs.length = Nat.min N N from by rw [hlen]; exact (Nat.min_self N).symm)
  have E4 := Lib.hid (show o + cs.length ≤ cur.size from by rw [hlen, hsz]; omega)
  have E5 := Lib.hid (show ∀ v ∈ cs, v.oneCell' = true from by
    intro v hv
    rw [← HCS.out] at hv
    obtain ⟨q, _, rfl⟩ := List.mem_map.1 hv
    rfl)
  have E6 := Lib.hid (show ∀ j v, cs[j]? = some v → W1.cell? (ad.add j) = some v from by
    intro j v hj
    rw [← HCS.out] at hj
    simp only [List.getElem?_map, Option.map_eq_some_iff] at hj
    obtain ⟨q, hq, rfl⟩ := hj
    obtain ⟨hq1, hq2⟩ := List.getElem?_eq_some_iff.1 hq
    simp at hq1 hq2
    subst hq2
    exact (hb1.cell (p := ad.add j) (show (ad.add j).block < _ from by rw [block_of_add]; exact had)).trans (hc j (by omega)))
  have HCU := Lib.hid hcur
  clear hcs hc hb1 hh hcur hrow
  go_wp2_with (refine wpList_copy_own rfl _ _ 37 37 rfl 5 Try.underlying37 E1.out b3 o N (c3 - o) ad N c rfl rfl cur t E2.out cs E3.out E6.out E4.out E5.out ?_)
  go_ret
  refine ⟨rfl, ⟨_, setRow_heap _ _ _ _ _ _ E2.out, ?_, fun i hi => ?_⟩, ?_⟩
  · have := E4.out
    rw [List.size_toArray]
    simp only [List.length_append, List.length_take, List.length_drop, Array.length_toList]
    omega
  · have h4 := E4.out
    rw [List.getElem?_toArray]
    unfold wrF
    by_cases h1 : i < o
    · rw [List.getElem?_append_left (by rw [List.length_take, Array.length_toList]; omega), List.getElem?_take, if_pos h1, if_neg (by omega)]
      rw [Array.getElem?_toList]
      exact HCU.out i hi
    · rw [List.getElem?_append_right (by rw [List.length_take, Array.length_toList]; omega), List.length_take, Array.length_toList, Nat.min_eq_left (by omega)]
      by_cases h2 : i < o + N
      · rw [List.getElem?_append_left (by omega), if_pos (by omega), ← HCS.out]
        rw [List.getElem?_map, List.getElem?_range (by omega)]
        rfl
      · rw [List.getElem?_append_right (by omega), List.getElem?_drop, if_neg (by omega), Array.getElem?_toList, show o + N + (i - o - cs.length) = i from by omega]
        exact HCU.out i hi
  · exact ⟨hg1.os, hg1.tape, hg1.output, by simpa [World.setRow] using hg1.size, fun k hk hne => (setRow_other _ _ _ _ (by rintro rfl; exact hne rfl)).trans (hg1.block k hk hne)⟩

end Go.Proofs.Ytmmgcmbniidieaa.GmWrite
