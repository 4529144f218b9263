
/- Memory in regions: copied (regions). -/
import Derived.Test.YtmmgcmbniidieaaGmCheck
import Derived.Test.YtmmgcmbniidieaaCopyN
namespace Go.Proofs.Ytmmgcmbniidieaa.GmCopyR
open Go.RowKit Rw GmFind GmWord GmLoad GmCopy GmCheck
set_option linter.unusedVariables false
set_option linter.unusedSimpArgs false

theorem rginfo : ∃ i, Try.prog.info? 55 = some i ∧ i.zero = some (.agg #[.int .u64 0, .int .u64 0]) ∧ i.size = 2 ∧ i.bytes = 16 := by
  have h : (Try.prog.info? 55).map (fun i => (i.size, i.bytes)) = some (2, 16) := by kernel_rfl
  have h2 : (Try.prog.info? 55).bind (fun i => i.zero) = some (.agg #[.int .u64 0, .int .u64 0]) := by kernel_rfl
  obtain ⟨i, hi, hs⟩ := Option.map_eq_some_iff.1 h
  rw [hi] at h2
  exact ⟨i, hi, h2, (Prod.mk.inj hs).1, (Prod.mk.inj hs).2⟩

set_option maxRecDepth 100000 in
set_option maxHeartbeats 4000000 in
theorem copied_rg (A : Option Addr) (k c : Nat) (r : Rg) (w : World) (hk0 : 0 < k) (hk : k ≤ 1000000) (h : Lst w w.heap.size A k r) :
    Calls Try.prog 49 #[.slice A k c] w fun e w' => ∃ b, e = .returned (.slice (some ⟨b, 0, none⟩) k k) ∧ w.heap.size ≤ b ∧ w'.rowIs b 55 (k * 2) r.cell ∧ Below w.heap.size w w' := by
  obtain ⟨i0, hi, hz0, hz1, hz2⟩ := rginfo
  have H0 := Lib.hid hi
  have H1 := Lib.hid hz0
  have H2 := Lib.hid hz1
  have H3 := Lib.hid hz2
  clear hi hz0 hz1 hz2
  go_enter Try.func49, Try.ntmps49
  go_wp2_with (at_make; refine wpList_make_full _ rfl _ _ 22 rfl w.heap.size 55 i0 (.agg #[.int .u64 0, .int .u64 0]) 2 Try.underlying22 H0.out H1.out H2.out _ _ _ _ k rfl rfl rfl rfl (by rw [H3.out]; omega) (by unfold maxLen; omega) (Nat.le_refl _) ?_)
  intro w1 ho1 hg1
  obtain ⟨cur, hh, hsz⟩ : ∃ cur : Array Value, w1.heap[w.heap.size]? = some (.cells cur 55 (0, 0)) ∧ cur.size = k * 2 := by
    rcases ho1.2 with ⟨hx, _⟩ | ⟨g', cap, cur, he, _, hh, _, _, hsz, _⟩
    · cases hx
    · cases he
      exact ⟨cur, hh, by omega⟩
  have HH := Lib.hid hh
  have hb1 : Below w.heap.size w w1 := (Below.refl _ w).grown hg1 (Nat.le_refl _) (fun k e => by cases e)
  clear ho1 hg1 hh
  obtain ⟨ad, rfl, had, hc⟩ := (h.below hb1) hk0
  clear h
  obtain ⟨cs, hcs⟩ : ∃ cs : List Value, (List.range (k * 2)).map r.cell = cs := ⟨_, rfl⟩
  have hlen : cs.length = k * 2 := by rw [← hcs]; simp
  have HCS := Lib.hid hcs
  have E1 := Lib.hid (show (Try.prog.info? 55).map (·.size) = some 2 from by kernel_rfl)
  have E2 := Lib.hid (show w1.heap[w.heap.size]? = some (.cells cur 55 (0, 0)) from HH.out)
  have E3 := Lib.hid (show cs.length = Nat.min k k * 2 from by rw [hlen, show Nat.min k k = k from Nat.min_self k])
  have E4 := Lib.hid (show 0 + cs.length ≤ cur.size from by rw [hlen, hsz]; omega)
  have E5 := Lib.hid (show ∀ v ∈ cs, v.oneCell' = true from by
    intro v hv
    rw [← HCS.out] at hv
    obtain ⟨q, _, rfl⟩ := List.mem_map.1 hv
    unfold Rg.cell
    split <;> rfl)
  have E6 := Lib.hid (show ∀ j v, cs[j]? = some v → w1.cell? (ad.add j) = some v from by
    intro j v hj
    rw [← HCS.out] at hj
    simp only [List.getElem?_map, Option.map_eq_some_iff] at hj
    obtain ⟨q, hq, rfl⟩ := hj
    obtain ⟨hq1, hq2⟩ := List.getElem?_eq_some_iff.1 hq
    simp at hq1 hq2
    subst hq2
    exact hc j (by omega))
  clear hcs hc
  go_wp2_with (refine wpList_copy_ownN rfl _ _ 22 22 rfl 55 2 Try.underlying22 E1.out w.heap.size 0 k k ad k c rfl rfl cur 55 E2.out cs E3.out E6.out E4.out E5.out ?_)
  go_ret
  refine ⟨w.heap.size, rfl, Nat.le_refl _, ⟨_, setRow_heap _ _ _ _ _ _ E2.out, ?_, fun i hi => ?_⟩, below_setRow hb1 (Nat.le_refl _) _⟩
  · have := E4.out
    rw [List.size_toArray]
    simp only [List.length_append, List.length_take, List.length_drop, Array.length_toList]
    omega
  · rw [List.getElem?_toArray]
    rw [List.getElem?_append_left (by omega), ← HCS.out, List.getElem?_map, List.getElem?_range hi]
    rfl

end Go.Proofs.Ytmmgcmbniidieaa.GmCopyR
