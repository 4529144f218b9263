
/- Segments: slices.Clone. -/
import Derived.Test.YtkejcdephnkkgaaSgCheck
import Derived.OwnWalk
import Derived.WalkSpells
import Derived.Lib.SliceRun
import Derived.Test.YtkejcdephnkkgaaMGm1
namespace Go.Proofs.Ytkejcdephnkkgaa.SgClone
open Go.RowKit Rw Sg SgCheck
set_option linter.unusedVariables false
set_option linter.unusedSimpArgs false

theorem sginfo : ∃ i, Try.prog.info? 73 = some i ∧ i.zero = some (.agg #[.int .u64 0, .int .u32 0, .bool false]) ∧ i.size = 3 ∧ i.bytes = 16 := by
  have h : (Try.prog.info? 73).map (fun i => (i.size, i.bytes)) = some (3, 16) := by kernel_rfl
  have h2 : (Try.prog.info? 73).bind (fun i => i.zero) = some (.agg #[.int .u64 0, .int .u32 0, .bool false]) := by kernel_rfl
  obtain ⟨i, hi, hs⟩ := Option.map_eq_some_iff.1 h
  rw [hi] at h2
  exact ⟨i, hi, h2, (Prod.mk.inj hs).1, (Prod.mk.inj hs).2⟩

/-- A list's cells, one by one. -/
theorem lst_cells {w : World} {B : Nat} {ad : Addr} {l : List S3} (h : Lst w B (some ad) l) : ∀ j v, (row l)[j]? = some v → w.cell? (ad.add j) = some v := by
  intro j v hj
  obtain ⟨h1, rfl⟩ := row_get l hj
  obtain ⟨ad', e, _, hc⟩ := h (by omega)
  cases e
  exact hc j h1

/-- A row of the call's own. -/
def OwnP (l : List S3) (w : World) (e : Ending) (w' : World) : Prop := ∃ (A : Option Addr) (c : Nat), e = .returned (.slice A l.length c) ∧ w'.ownsRow w.heap.size 73 3 (.slice A l.length c) l.length (row l) ∧ Below w.heap.size w w'

theorem own_slice {w : World} {base : Nat} {e : TypeId} {size n : Nat} {v : Value} {xs : List Value} (h : w.ownsRow base e size v n xs) : ∃ A c, v = .slice A n c := by
  rcases h.2 with ⟨h1, h2⟩ | ⟨g, cap, cur, h1, _⟩
  · exact ⟨_, _, by rw [h1, h2]⟩
  · exact ⟨_, _, h1⟩
theorem own_block {w : World} {base : Nat} {e : TypeId} {size n c : Nat} {A : Option Addr} {xs : List Value} (h : w.ownsRow base e size (.slice A n c) n xs) : ∀ g, (Value.slice A n c).ownBlock = some g → base ≤ g := by
  intro g hg
  rcases h.2 with ⟨h1, h2⟩ | ⟨g', cap, cur, h1, hb, _⟩
  · rw [h1] at hg; cases hg
  · rw [h1] at hg; cases hg; exact hb
theorem own_lst {w : World} {base c : Nat} {A : Option Addr} {l : List S3} (h : w.ownsRow base 73 3 (.slice A l.length c) l.length (row l)) : Lst w w.heap.size A l :=
  (IsRow.of_own h).congr fun j hj => row_getD l hj

set_option maxRecDepth 100000 in
set_option maxHeartbeats 4000000 in
theorem clone_any (A : Option Addr) (c : Nat) (l : List S3) (w : World) (hn : l.length ≤ 1000000) (h : Lst w w.heap.size A l) :
    Calls Try.prog 49 #[.slice A l.length c] w (OwnP l w) := by
  cases A with
  | none =>
    have hl : l = [] := by
      cases l with
      | nil => rfl
      | cons x l => obtain ⟨ad, e, _⟩ := h (by simp); cases e
    subst hl
    have hq := fun W a n c => Lib.run_eql_slice_nil (P := Try.prog) W 23 73 a n c 0 0 Try.underlying23
    clear h
    show Calls Try.prog 49 #[.slice none 0 c] w (OwnP [] w)
    go_enter Try.func49, Try.ntmps49
    go_wp2
    go_ret
    exact ⟨none, 0, rfl, ⟨rfl, .inl ⟨rfl, rfl⟩⟩, by go_grown⟩
  | some ad =>
    obtain ⟨i0, hi, hz0, hz1, hz2⟩ := sginfo
    have hc : ∀ j v, (row l)[j]? = some v → (w.alloc (.cells #[] 73)).cell? (ad.add j) = some v := fun j v hj => by
      have h1 := lst_cells h j v hj
      have := Args.block_lt h1
      rw [World.cell?_alloc_lt _ _ _ this]
      exact h1
    obtain ⟨N, hN⟩ : ∃ N, l.length = N := ⟨_, rfl⟩
    have HN := Lib.hid hN
    have H0 := Lib.hid hi
    have H1 := Lib.hid hz0
    have H2 := Lib.hid hz1
    have H3 := Lib.hid hz2
    have HC := Lib.hid hc
    have HL := Lib.hid (show (row l).length = N * 3 from by rw [row_length, hN])
    have HO := Lib.hid (World.ownsRow_made (e := 73) (size := 3) w #[] 0 (Nat.le_refl _) (by unfold maxLen; omega) rfl)
    have hq := fun W a n c => Lib.run_eql_slice_nil (P := Try.prog) W 23 73 a n c 0 0 Try.underlying23
    unfold OwnP
    rw [hN] at hn ⊢
    clear h hc hi hz0 hz1 hz2 hN
    go_enter Try.func49, Try.ntmps49
    go_wp2_with (at_builtin; refine wpList_append_own _ rfl _ _ 23 rfl w.heap.size 73 i0 (.agg #[.int .u64 0, .int .u32 0, .bool false]) 3 16 Try.underlying23 H0.out H1.out H2.out H3.out rfl (by decide) (.slice (some ⟨w.heap.size, 0, none⟩) 0 0) 0 [] rfl HO.out ad N c (row l) rfl HL.out HC.out (row_one l) (by unfold maxLen; omega) (by omega) (by rw [World.size_alloc]; omega) ?_)
    intro v' W hown' hg' _
    have hown2 : W.ownsRow w.heap.size 73 3 v' N (row l) := by
      simpa using hown'
    obtain ⟨A', c', rfl⟩ := own_slice hown2
    have hb : Below w.heap.size w W := ((Below.refl w.heap.size w).alloc (Nat.le_refl _) _).grown hg' (by rw [World.size_alloc]; omega) (fun b e => by cases e; exact Nat.le_refl _)
    have HH := Lib.hid (And.intro hown2 hb)
    clear hown' hg' hown2 hb hq
    go_wp2_with fail
    go_ret
    exact ⟨A', c', rfl, HH.out.1, HH.out.2⟩

end Go.Proofs.Ytkejcdephnkkgaa.SgClone
