
/- Memory in regions: copied (bytes). -/
import Derived.Test.YtmmgcmbniidieaaGmLoad
import Derived.OwnWalk
import Derived.Laws.CopyOwn
namespace Go.Proofs.Ytmmgcmbniidieaa.GmCopy
open Go.RowKit Rw GmFind GmWord GmLoad
set_option linter.unusedVariables false
set_option linter.unusedSimpArgs false

theorem u8info : ∃ i, Try.prog.info? 5 = some i ∧ i.zero = some (.int .u8 0) ∧ i.size = 1 ∧ i.bytes = 1 := by
  have h : (Try.prog.info? 5).map (fun i => (i.size, i.bytes)) = some (1, 1) := by kernel_rfl
  have h2 : (Try.prog.info? 5).map (fun i => match i.zero with | some (.int .u8 0) => true | _ => false) = some true := by kernel_rfl
  obtain ⟨i, hi, hs⟩ := Option.map_eq_some_iff.1 h
  obtain ⟨i', hi', hz⟩ := Option.map_eq_some_iff.1 h2
  rw [hi] at hi'
  obtain rfl : i = i' := by injection hi'
  refine ⟨i, hi, ?_, ?_, ?_⟩
  · revert hz
    split
    · rename_i e; intro _; exact e
    · intro h; cases h
  · injection hs
  · injection hs

set_option maxRecDepth 100000 in
set_option maxHeartbeats 4000000 in
theorem copied_u8 (A : Option Addr) (n c : Nat) (g : Nat → Int) (w : World) (hn : n ≤ 1000000000) (h : IsRow w w.heap.size 1 A n (fun j => .int .u8 (g j))) :
    Calls Try.prog 57 #[.slice A n c] w fun e w' => ∃ b, e = .returned (.slice (some ⟨b, 0, none⟩) n n) ∧ w.heap.size ≤ b ∧ w'.rowIs b 5 n (fun j => .int .u8 (g j)) ∧ Below w.heap.size w w' := by
  obtain ⟨i0, hi, hz0, hz1, hz2⟩ := u8info
  have H0 := Lib.hid hi
  have H1 := Lib.hid hz0
  have H2 := Lib.hid hz1
  have H3 := Lib.hid hz2
  clear hi hz0 hz1 hz2
  go_enter Try.func57, Try.ntmps57
  go_wp2_with (at_make; refine wpList_make_full _ rfl _ _ 37 rfl w.heap.size 5 i0 (.int .u8 0) 1 Try.underlying37 H0.out H1.out H2.out _ _ _ _ n rfl rfl rfl rfl (by rw [H3.out]; omega) (by unfold maxLen; omega) (Nat.le_refl _) ?_)
  intro w1 ho1 hg1
  obtain ⟨cur, hh, hsz⟩ : ∃ cur : Array Value, w1.heap[w.heap.size]? = some (.cells cur 5 (0, 0)) ∧ cur.size = n := by
    rcases ho1.2 with ⟨hx, _⟩ | ⟨g', cap, cur, he, _, hh, _, _, hsz, _⟩
    · cases hx
    · cases he
      exact ⟨cur, hh, by omega⟩
  have HH := Lib.hid hh
  have hb1 : Below w.heap.size w w1 := (Below.refl _ w).grown hg1 (Nat.le_refl _) (fun k e => by cases e)
  clear ho1 hg1 hh
  have HI := Lib.hid (h.below hb1)
  clear h
  obtain ⟨cs, hcs⟩ : ∃ cs : List Value, (List.range n).map (fun j => Value.int .u8 (g j)) = cs := ⟨_, rfl⟩
  have hlen : cs.length = n := by rw [← hcs]; simp
  have HCS := Lib.hid hcs
  clear hcs
  have E1 := Lib.hid (show (Try.prog.info? 5).map (·.size) = some 1 from by kernel_rfl)
  have E2 := Lib.hid (show w1.heap[w.heap.size]? = some (.cells cur.toList.toArray 5 (0, 0)) from HH.out)
  have E3 := Lib.hid (show cs.length = Nat.min n n from by rw [hlen]; exact (Nat.min_self n).symm)
  have E4 := Lib.hid (show 0 + cs.length ≤ cur.toList.length from by rw [hlen, Array.length_toList, hsz]; omega)
  have E5 := Lib.hid (show ∀ v ∈ cs, v.oneCell' = true from by
    intro v hv
    rw [← HCS.out] at hv
    obtain ⟨q, _, rfl⟩ := List.mem_map.1 hv
    rfl)
  go_wp2_with (refine wpList_copy_splice rfl (.tmp 7) (.tmp 8) 37 37 rfl 5 Try.underlying37 E1.out (some ⟨w.heap.size, 0, none⟩) A n n n c (by rfl) (by rfl) w.heap.size 0 cur.toList 5 E2.out cs E3.out ?_ E4.out E5.out w.heap.size w hb1 (Nat.le_refl _) ?_)
  · intro hp
    obtain ⟨ad, hA, _, hc⟩ := HI.out (by omega)
    refine ⟨ad, hA, fun j v hj => ?_⟩
    rw [← HCS.out] at hj
    simp only [List.getElem?_map, Option.map_eq_some_iff] at hj
    obtain ⟨q, hq, rfl⟩ := hj
    obtain ⟨hq1, hq2⟩ := List.getElem?_eq_some_iff.1 hq
    simp at hq1 hq2
    subst hq2
    exact hc j (by omega)
  · intro w2 hh2 hb2
    go_wp2_with fail
    go_ret
    refine ⟨w.heap.size, rfl, Nat.le_refl _, ⟨(splice cur.toList 0 cs).toArray, hh2.out, ?_, fun i hi => ?_⟩, hb2⟩
    · simp [splice]; omega
    · rw [← HCS.out]
      simp only [splice, List.getElem?_toArray, List.take_zero, List.nil_append]
      rw [List.getElem?_append_left (by rw [List.length_map, List.length_range]; exact hi)]
      simp [hi]

end Go.Proofs.Ytmmgcmbniidieaa.GmCopy
