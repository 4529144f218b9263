/- The chapter's examples of package feat. -/
import Derived.Test.YtkncaafjkoeijaaDoorFeD
namespace Go.Proofs.YtkncaafjkoeijaaDoor.Fe
open Go.RowKit Rw
set_option linter.unusedSimpArgs false
set_option linter.unusedVariables false

set_option maxRecDepth 100000 in
set_option maxHeartbeats 2000000 in
theorem lives_any (ad : Addr) (cap : Nat) (w : World) (hR : Rules w ad cap) : Calls Tryd.prog 10 #[] w (Gives w.heap.size w (.bool true)) := by
  unfold Gives
  have hb0 : Below w.heap.size w w := Below.refl _ _
  have HR := Lib.hid hR
  clear hR
  have e1 : bits .or .u64 (nu v1) (nu (4194304#64)) = nu (4299161600#64) := by rw [b_or]; rfl
  have e2 : bits .or .u64 (nu v1) (nu (524288#64)) = nu (4295491584#64) := by rw [b_or]; rfl
  have e3 : bits .or .u64 (nu (4295491584#64)) (nu (131072#64)) = nu (4295622656#64) := by rw [b_or]; rfl
  have c := nu_beq v1 v1
  have c2 : (v1 == v1) = true := beq_self_eq_true _
  go_enter Tryd.func10, Tryd.ntmps10
  go_wp2_with fail
  refine (bit_is 32 v1 (by decide) (by decide) (by decide) _).mono ?_
  rintro eE W1 ⟨rfl, hg1⟩
  have hb1 : Below w.heap.size w W1 := (show Below w.heap.size w _ by go_grown).trans (hg1.mono (by first | omega | go_size))
  obtain ⟨hc1, hf1⟩ := bcell hg1
  have hs1 := hg1.size
  try simp only [World.size_alloc, World.size_setCell, World.size_drew] at hs1
  clear hg1 hc1 hf1
  go_wp2_with fail
  refine (bit_is 22 4194304#64 (by decide) (by decide) (by decide) _).mono ?_
  rintro eE W2 ⟨rfl, hg2⟩
  have hb2 : Below w.heap.size w W2 := (show Below w.heap.size w _ by go_grown).trans (hg2.mono (by first | omega | go_size))
  obtain ⟨hc2, hf2⟩ := bcell hg2
  have hs2 := hg2.size
  try simp only [World.size_alloc, World.size_setCell, World.size_drew] at hs2
  clear hg2 hc2 hf2
  go_wp2_with fail
  refine (best_is 1 (4299161600#64) (18446744073709551615#64) v1 (by decide +kernel) (by decide +kernel) ad cap _ (HR.out.below (by go_grown))).mono ?_
  rintro eE W3 ⟨rfl, hg3⟩
  have hb3 : Below w.heap.size w W3 := (show Below w.heap.size w _ by go_grown).trans (hg3.mono (by first | omega | go_size))
  obtain ⟨hc3, hf3⟩ := bcell hg3
  have hs3 := hg3.size
  try simp only [World.size_alloc, World.size_setCell, World.size_drew] at hs3
  clear hg3 hc3 hf3
  go_wp2_with fail
  refine (bit_is 19 524288#64 (by decide) (by decide) (by decide) _).mono ?_
  rintro eE W4 ⟨rfl, hg4⟩
  have hb4 : Below w.heap.size w W4 := (show Below w.heap.size w _ by go_grown).trans (hg4.mono (by first | omega | go_size))
  obtain ⟨hc4, hf4⟩ := bcell hg4
  have hs4 := hg4.size
  try simp only [World.size_alloc, World.size_setCell, World.size_drew] at hs4
  clear hg4 hc4 hf4
  go_wp2_with fail
  refine (closed_is 1 (4295491584#64) false (by decide +kernel) ad cap _ (HR.out.below (by go_grown))).mono ?_
  rintro eE W5 ⟨rfl, hg5⟩
  have hb5 : Below w.heap.size w W5 := (show Below w.heap.size w _ by go_grown).trans (hg5.mono (by first | omega | go_size))
  obtain ⟨hc5, hf5⟩ := bcell hg5
  have hs5 := hg5.size
  try simp only [World.size_alloc, World.size_setCell, World.size_drew] at hs5
  clear hg5 hc5 hf5
  go_wp2_with fail
  refine (bit_is 19 524288#64 (by decide) (by decide) (by decide) _).mono ?_
  rintro eE W6 ⟨rfl, hg6⟩
  have hb6 : Below w.heap.size w W6 := (show Below w.heap.size w _ by go_grown).trans (hg6.mono (by first | omega | go_size))
  obtain ⟨hc6, hf6⟩ := bcell hg6
  have hs6 := hg6.size
  try simp only [World.size_alloc, World.size_setCell, World.size_drew] at hs6
  clear hg6 hc6 hf6
  go_wp2_with fail
  refine (bit_is 17 131072#64 (by decide) (by decide) (by decide) _).mono ?_
  rintro eE W7 ⟨rfl, hg7⟩
  have hb7 : Below w.heap.size w W7 := (show Below w.heap.size w _ by go_grown).trans (hg7.mono (by first | omega | go_size))
  obtain ⟨hc7, hf7⟩ := bcell hg7
  have hs7 := hg7.size
  try simp only [World.size_alloc, World.size_setCell, World.size_drew] at hs7
  clear hg7 hc7 hf7
  go_wp2_with fail
  refine (closed_is 1 (4295622656#64) true (by decide +kernel) ad cap _ (HR.out.below (by go_grown))).mono ?_
  rintro eE W8 ⟨rfl, hg8⟩
  have hb8 : Below w.heap.size w W8 := (show Below w.heap.size w _ by go_grown).trans (hg8.mono (by first | omega | go_size))
  obtain ⟨hc8, hf8⟩ := bcell hg8
  have hs8 := hg8.size
  try simp only [World.size_alloc, World.size_setCell, World.size_drew] at hs8
  clear hg8 hc8 hf8
  go_wp2_with fail
  go_ret
  exact ⟨rfl, by go_grown⟩

end Go.Proofs.YtkncaafjkoeijaaDoor.Fe
