
/- A list of regions of its own: none. -/
import Derived.Test.YtmmgcmbniidieaaGmKit
import Derived.Test.YtmmgcmbniidieaaGmNew
import Derived.Test.YtmmgcmbniidieaaAppendOpt
namespace Go.Proofs.Ytmmgcmbniidieaa.GmKit
open Go.RowKit Rw GmFind GmWord GmCheck GmCopyR GmNew
set_option linter.unusedVariables false
set_option linter.unusedSimpArgs false

theorem own_nil {w : World} {base : Nat} {e : TypeId} {size n c : Nat} {A : Option Addr} {xs : List Value} (h : w.ownsRow base e size (.slice A n c) n xs) : A = none → c = 0 := by
  rintro rfl
  rcases h.2 with ⟨h1, _⟩ | ⟨g', cap, cur, h1, _⟩
  · injection h1
  · injection h1 with h1; cases h1

set_option maxRecDepth 100000 in
set_option maxHeartbeats 2000000 in
theorem regions_none (A : Option Addr) (c : Nat) (w : World) (hA : A = none → c = 0) : Calls Try.prog 10 #[.slice A 0 c] w fun e w' => ∃ (A' : Option Addr) (c' : Nat), e = .returned (.slice A' 0 c') ∧ (A' = none → c' = 0) ∧ Below w.heap.size w w' := by
  obtain ⟨i0, hi, hz0, hz1, hz2⟩ := rginfo
  have H0 := Lib.hid hi
  have H1 := Lib.hid hz0
  have H2 := Lib.hid hz1
  have H3 := Lib.hid hz2
  have HA := Lib.hid hA
  have HO := Lib.hid (World.ownsRow_made (base := w.heap.size) (e := 55) (size := 2) w #[] 0 (Nat.le_refl _) (by unfold maxLen; omega) rfl)
  clear hi hz0 hz1 hz2 hA
  go_enter Try.func10, Try.ntmps10
  go_wp2_with (at_builtin; refine wpList_append_opt rfl _ _ 22 rfl w.heap.size 55 i0 (.agg #[.int .u64 0, .int .u64 0]) 2 16 Try.underlying22 H0.out H1.out H2.out H3.out rfl (by decide) (.slice (some ⟨w.heap.size, 0, none⟩) 0 0) 0 [] rfl HO.out A 0 c [] rfl (fun h => ⟨rfl, HA.out h⟩) rfl (fun ad _ j u hj => by simp at hj) (by simp) (by unfold maxLen; omega) (by omega) (by rw [World.size_alloc]; omega) ?_)
  intro v' W hown' hg'
  have hown2 : W.ownsRow w.heap.size 55 2 v' 0 [] := by simpa using hown'
  obtain ⟨A', c', rfl⟩ := own_slice hown2
  have hb : Below w.heap.size w W := ((Below.refl w.heap.size w).alloc (Nat.le_refl _) _).grown hg' (by rw [World.size_alloc]; omega) (fun b e => by cases e; exact Nat.le_refl _)
  have HH := Lib.hid (And.intro (own_nil hown2) hb)
  clear hown' hg' hown2 hb
  go_wp2_with fail
  go_ret
  exact ⟨A', c', rfl, HH.out.1, HH.out.2⟩

end Go.Proofs.Ytmmgcmbniidieaa.GmKit
