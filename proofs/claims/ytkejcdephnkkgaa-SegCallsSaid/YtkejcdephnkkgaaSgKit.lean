/- Lists of segments: dumbwaiterkit.SameSegs, Segs. -/
import Derived.Test.YtkejcdephnkkgaaSgTotal
import Derived.Test.YtkejcdephnkkgaaSgCut
import Derived.Test.YtkejcdephnkkgaaSgR3
import Derived.Test.YtkejcdephnkkgaaMGm1
import Derived.Test.YtkejcdephnkkgaaAppendZero
namespace Go.Proofs.Ytkejcdephnkkgaa.SgKit
open Go.RowKit Rw Sg SgCheck SgClone SgTotal SgCut SgArgs SgR3
set_option linter.unusedVariables false
set_option linter.unusedSimpArgs false

set_option maxRecDepth 100000 in
set_option maxHeartbeats 4000000 in
theorem sames_any (A A' : Option Addr) (c c' : Nat) (l o : List S3) (w : World) (hn : l.length ≤ 1000000000) (hn' : o.length ≤ 1000000000) (h : Lst w w.heap.size A l) (h' : Lst w w.heap.size A' o) :
    Calls Try.prog 18 #[.slice A l.length c, .slice A' o.length c'] w fun e w' => e = .returned (.bool (sameL l o)) ∧ Below w.heap.size w w' := by
  by_cases hk : l.length = o.length
  case neg =>
    rw [sameL_length hk]
    have h1 : ((l.length : Int) == (o.length : Int)) = false := by simp; omega
    clear h h'
    obtain ⟨N, hN⟩ : ∃ N, l.length = N := ⟨_, rfl⟩
    obtain ⟨M, hM⟩ : ∃ M, o.length = M := ⟨_, rfl⟩
    rw [hN] at hn hk h1 ⊢
    rw [hM] at hn' hk h1 ⊢
    clear hN hM
    go_enter Try.func18, Try.ntmps18
    go_wp2
    go_ret
    exact ⟨rfl, by go_grown⟩
  have HL := Lib.hid h
  have HO := Lib.hid h'
  obtain ⟨R, hR⟩ : ∃ R, sameL l o = R := ⟨_, rfl⟩
  have HR := Lib.hid hR
  rw [hR, ← hk]
  obtain ⟨N, hN⟩ : ∃ N, l.length = N := ⟨_, rfl⟩
  have HN := Lib.hid hN
  have HM := Lib.hid (hk.symm.trans hN)
  rw [hN] at hn ⊢
  clear h h' hR hN hn' hk
  go_enter Try.func18, Try.ntmps18
  go_wp2_with fail
  go_loopw [5] (fun i wr => ∃ (k : Nat), k ≤ N ∧ i = .int .i64 k ∧ sameL (l.drop k) (o.drop k) = R ∧ Below w.heap.size w wr) (fun i wr => N - (intOf i).toNat)
  case atStart => exact ⟨0, by omega, rfl, by simpa using HR.out, by go_grown⟩
  case round =>
    obtain ⟨k, hkn, rfl, hs, hb⟩ := hrel
    by_cases hlt : k < N
    · obtain ⟨ad, rfl, had, c0, c1, c2⟩ := el (k := k) (HL.out.below hb) (by rw [HN.out]; exact hlt)
      obtain ⟨ad', rfl, had', d0, d1, d2⟩ := el (k := k) (HO.out.below hb) (by rw [HM.out]; exact hlt)
      rw [same_drop (by rw [HN.out]; exact hlt) (by rw [HN.out, HM.out])] at hs
      obtain ⟨x, hx⟩ : ∃ x, at_ l k = x := ⟨_, rfl⟩
      obtain ⟨y, hy⟩ : ∃ y, at_ o k = y := ⟨_, rfl⟩
      rw [hx] at c0 c1 c2 hs
      rw [hy] at d0 d1 d2 hs
      clear hx hy
      obtain ⟨a, n, b⟩ := x
      obtain ⟨a', n', b'⟩ := y
      simp only at c0 c1 c2 d0 d1 d2
      have hsw := hb.size
      have HS := Lib.hid hs
      clear hs
      by_cases he : a = a' ∧ n = n' ∧ b = b'
      · obtain ⟨rfl, rfl, rfl⟩ := he
        go_wp2
        go_region
        go_wp2
        go_roundw
        case rel => exact ⟨k + 1, by omega, by go_num, by have := HS.out; rw [(eqS_iff _ _).2 rfl] at this; simpa using this, hb.drew⟩
        case measure => simp [intOf]; omega
      · have e2 : R = false := by
          have := HS.out
          rw [show eqS ⟨a, n, b⟩ ⟨a', n', b'⟩ = false from by cases hq : eqS ⟨a, n, b⟩ ⟨a', n', b'⟩ with
            | false => rfl
            | true => exact absurd ((eqS_iff _ _).1 hq) (fun e => he (by injection e with e1 e2 e3; exact ⟨e1, e2, e3⟩))] at this
          simpa using this.symm
        subst e2
        by_cases ha : a = a'
        · subst ha
          by_cases hm : n = n'
          · subst hm
            have hbb : ¬ b = b' := fun e => he ⟨rfl, rfl, e⟩
            clear he
            go_wp2
            go_region
            go_wp2
            go_ret
            exact ⟨rfl, hb.drew⟩
          · clear he
            go_wp2
            go_region
            go_wp2
            go_ret
            exact ⟨rfl, hb.drew⟩
        · clear he
          go_wp2
          go_region
          go_wp2
          go_ret
          exact ⟨rfl, hb.drew⟩
    · obtain rfl : k = N := by omega
      rw [List.drop_eq_nil_of_le (by rw [HN.out]; omega), List.drop_eq_nil_of_le (by rw [HM.out]; omega)] at hs
      obtain rfl : R = true := hs.symm
      clear hs
      go_wp2
      go_ret
      exact ⟨rfl, hb⟩


def OwnN (N : Nat) (l : List S3) (w : World) (e : Ending) (w' : World) : Prop := ∃ (A : Option Addr) (c : Nat), e = .returned (.slice A N c) ∧ w'.ownsRow w.heap.size 73 3 (.slice A N c) N (row l) ∧ Below w.heap.size w w'

set_option maxRecDepth 100000 in
set_option maxHeartbeats 4000000 in
theorem segs_any (A : Option Addr) (c : Nat) (l : List S3) (w : World) (hn : l.length ≤ 1000000) (h : Lst w w.heap.size A l) : Calls Try.prog 25 #[.slice A l.length c] w (SegsP l w) := by
  obtain ⟨i0, hi, hz0, hz1, hz2⟩ := sginfo
  have H0 := Lib.hid hi
  have H1 := Lib.hid hz0
  have H2 := Lib.hid hz1
  have H3 := Lib.hid hz2
  have HO := Lib.hid (World.ownsRow_made (e := 73) (size := 3) w #[] 0 (Nat.le_refl _) (by unfold maxLen; omega) rfl)
  by_cases h0 : l.length = 0
  · have e : l = [] := List.eq_nil_of_length_eq_zero h0
    subst e
    clear h
    show Calls Try.prog 25 #[.slice A 0 c] w (SegsP [] w)
    go_enter Try.func25, Try.ntmps25
    go_wp2_with (at_builtin; refine wpList_append_zero rfl _ _ 23 rfl 73 i0 Try.underlying23 H0.out (some ⟨w.heap.size, 0, none⟩) A 0 0 c (Nat.le_refl _) rfl rfl ?_)
    go_ret
    exact ownP (T := []) (c := 0) HO.out ((Below.refl _ _).alloc (Nat.le_refl _) _)
  · obtain ⟨ad, rfl, _⟩ := h (by omega)
    have hc : ∀ j v, (row l)[j]? = some v → (w.alloc (.cells #[] 73)).cell? (ad.add j) = some v := fun j v hj => by
      have h1 := lst_cells h j v hj
      have := Args.block_lt h1
      rw [World.cell?_alloc_lt _ _ _ this]
      exact h1
    obtain ⟨N, hN⟩ : ∃ N, l.length = N := ⟨_, rfl⟩
    have HN := Lib.hid hN
    have HC := Lib.hid hc
    have HL := Lib.hid (show (row l).length = N * 3 from by rw [row_length, hN])
    have hP : ∀ e w', OwnN N l w e w' → SegsP l w e w' := fun e w' ⟨A', c', he, ho, hb⟩ => by
      subst hN he
      exact ownP ho hb
    refine Calls.mono ?_ (fun e w' h => hP e w' h)
    rw [hN] at hn ⊢
    unfold OwnN
    clear h hc hi hz0 hz1 hz2 hN h0 hP
    go_enter Try.func25, Try.ntmps25
    go_wp2_with (at_builtin; refine wpList_append_own _ rfl _ _ 23 rfl w.heap.size 73 i0 (.agg #[.int .u64 0, .int .u32 0, .bool false]) 3 16 Try.underlying23 H0.out H1.out H2.out H3.out rfl (by decide) (.slice (some ⟨w.heap.size, 0, none⟩) 0 0) 0 [] rfl HO.out ad N c (row l) rfl HL.out HC.out (row_one l) (by unfold maxLen; omega) (by omega) (by rw [World.size_alloc]; omega) ?_)
    intro v' W hown' hg' _
    have hown2 : W.ownsRow w.heap.size 73 3 v' N (row l) := by
      simpa using hown'
    obtain ⟨A', c', rfl⟩ := SgClone.own_slice hown2
    have hb : Below w.heap.size w W := ((Below.refl w.heap.size w).alloc (Nat.le_refl _) _).grown hg' (by rw [World.size_alloc]; omega) (fun b e => by cases e; exact Nat.le_refl _)
    have HH := Lib.hid (And.intro hown2 hb)
    clear hown' hg' hown2 hb
    go_wp2_with fail
    go_ret
    exact ⟨A', c', rfl, HH.out.1, HH.out.2⟩

end Go.Proofs.Ytkejcdephnkkgaa.SgKit
