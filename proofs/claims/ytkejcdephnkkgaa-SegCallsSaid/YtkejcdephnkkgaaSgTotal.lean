
/- Segments: the contracts of Total, slices.Equal, Same. -/
import Derived.Test.YtkejcdephnkkgaaSgCheck
import Derived.RegionTactic
namespace Go.Proofs.Ytkejcdephnkkgaa.SgTotal
open Go.RowKit Rw Sg SgCheck
set_option linter.unusedVariables false
set_option linter.unusedSimpArgs false

theorem tot_cons (b : Bool) (x : S3) (r : List S3) : tot b (x :: r) = (if x.w = b then x.n else 0) + tot b r := rfl

set_option maxRecDepth 100000 in
set_option maxHeartbeats 4000000 in
theorem total_any (A : Option Addr) (c : Nat) (l : List S3) (w : World) (hn : l.length ≤ 1000000000) (hraw : ∀ x ∈ l, x.Raw) (h : Lst w w.heap.size A l) :
    Calls Try.prog 12 #[.slice A l.length c] w fun e w' => e = .returned (.tuple #[.int .u64 (rd l), .int .u64 (wr l)]) ∧ Below w.heap.size w w' := by
  have hb0 : Below w.heap.size w w := Below.refl _ _
  by_cases hk : checkL l = 0
  case neg =>
    have e1 : rd l = 0 := by unfold rd; rw [if_neg hk]
    have e2 : wr l = 0 := by unfold wr; rw [if_neg hk]
    rw [e1, e2]
    have h1 : (checkL l == 0) = false := by simp [hk]
    have H := Lib.hid h
    clear h hk
    go_enter Try.func12, Try.ntmps12
    go_wp2_with fail
    refine (check_any A c l _ hn hraw H.out).mono ?_
    rintro eE W1 ⟨rfl, hg1⟩
    have hb1 : Below w.heap.size w W1 := (show Below w.heap.size w _ by go_grown).trans (hg1.mono (by first | omega | go_size))
    obtain ⟨hc1, hf1⟩ := bcell hg1
    have hs1 := hg1.size
    try simp only [World.size_alloc, World.size_setCell, World.size_drew] at hs1
    clear hg1 hc1 hf1
    go_wp2_with fail
    go_returns
    exact ⟨rfl, by go_grown⟩
  obtain ⟨R, hR⟩ : ∃ R, tot false l = R := ⟨_, rfl⟩
  obtain ⟨V, hV⟩ : ∃ V, tot true l = V := ⟨_, rfl⟩
  have e1 : rd l = R := by unfold rd; rw [if_pos hk, hR]
  have e2 : wr l = V := by unfold wr; rw [if_pos hk, hV]
  have hsum := check_sum hk
  rw [hR, hV] at hsum
  have hR0 : 0 ≤ R := hR ▸ tot_nonneg hraw
  have hV0 : 0 ≤ V := hV ▸ tot_nonneg hraw
  rw [e1, e2]
  have h1 : (checkL l == 0) = true := by simp [hk]
  have HL := Lib.hid h
  have HW := Lib.hid hraw
  have HRD := Lib.hid hR
  have HWR := Lib.hid hV
  clear h hR hV hraw e1 e2
  go_enter Try.func12, Try.ntmps12
  go_wp2_with fail
  refine (check_any A c l _ hn HW.out HL.out).mono ?_
  rintro eE W1 ⟨rfl, hg1⟩
  have hb1 : Below w.heap.size w W1 := (show Below w.heap.size w _ by go_grown).trans (hg1.mono (by first | omega | go_size))
  obtain ⟨hc1, hf1⟩ := bcell hg1
  have hs1 := hg1.size
  try simp only [World.size_alloc, World.size_setCell, World.size_drew] at hs1
  clear hg1 hc1 hf1
  go_wp2_with fail
  obtain ⟨N, hN⟩ : ∃ N, l.length = N := ⟨_, rfl⟩
  have HN := Lib.hid hN
  rw [hN] at hn
  simp only [hN]
  clear hN
  go_loopw [2, 3, 11] (fun r v i wr => ∃ (k : Nat) (p q : Int), k ≤ N ∧ r = .int .u64 p ∧ v = .int .u64 q ∧ i = .int .i64 k ∧ 0 ≤ p ∧ 0 ≤ q ∧ p + tot false (l.drop k) = R ∧ q + tot true (l.drop k) = V ∧ Below w.heap.size w wr) (fun r v i wr => N - (intOf i).toNat)
  case atStart => exact ⟨0, 0, 0, by omega, rfl, rfl, rfl, by omega, by omega, by simpa using HRD.out, by simpa using HWR.out, by go_grown⟩
  case round =>
    obtain ⟨k, p, q, hkn, rfl, rfl, rfl, hp0, hq0, hp1, hq1, hb⟩ := hrel
    by_cases hlt : k < N
    · obtain ⟨ad, rfl, had, c0, c1, c2⟩ := el (k := k) (HL.out.below hb) (by rw [HN.out]; exact hlt)
      rw [drop_at l (by rw [HN.out]; exact hlt), tot_cons] at hp1 hq1
      have hd0 : 0 ≤ tot false (l.drop (k + 1)) := tot_nonneg fun x hx => HW.out x (List.mem_of_mem_drop hx)
      have hd1 : 0 ≤ tot true (l.drop (k + 1)) := tot_nonneg fun x hx => HW.out x (List.mem_of_mem_drop hx)
      obtain ⟨x, hx⟩ : ∃ x, at_ l k = x := ⟨_, rfl⟩
      rw [hx] at c0 c1 c2 hp1 hq1
      obtain ⟨r0, r1, r2, r3⟩ : x.Raw := hx ▸ HW.out _ (at_mem l (by rw [HN.out]; exact hlt))
      obtain ⟨a, n, b⟩ := x
      simp only at c0 c1 c2 r0 r1 r2 r3 hp1 hq1
      clear hx
      have hsw := hb.size
      cases b with
      | true =>
        have hp2 : p + tot false (l.drop (k + 1)) = R := by simpa using hp1
        have hq2 : q + n + tot true (l.drop (k + 1)) = V := by simp at hq1; omega
        have f4 : IntKind.u64.wrap (q + n) = q + n := by rw [IntKind.wrap_u64]; omega
        have HP := Lib.hid hp2
        have HQ := Lib.hid hq2
        clear hp1 hq1 hp2 hq2 hd0 hd1
        go_wp2_with fail
        go_roundw
        case rel => exact ⟨k + 1, p, q + n, by omega, rfl, rfl, by go_num, by omega, by omega, HP.out, HQ.out, by go_grown⟩
        case measure => simp [intOf]; omega
      | false =>
        have hp2 : p + n + tot false (l.drop (k + 1)) = R := by simp at hp1; omega
        have hq2 : q + tot true (l.drop (k + 1)) = V := by simpa using hq1
        have f4 : IntKind.u64.wrap (p + n) = p + n := by rw [IntKind.wrap_u64]; omega
        have HP := Lib.hid hp2
        have HQ := Lib.hid hq2
        clear hp1 hq1 hp2 hq2 hd0 hd1
        go_wp2_with fail
        go_roundw
        case rel => exact ⟨k + 1, p + n, q, by omega, rfl, rfl, by go_num, by omega, by omega, HP.out, HQ.out, by go_grown⟩
        case measure => simp [intOf]; omega
    · obtain rfl : k = N := by omega
      have e0 : l.drop k = [] := List.drop_eq_nil_of_le (by rw [HN.out]; omega)
      rw [e0] at hp1 hq1
      unfold tot at hp1 hq1
      obtain rfl : p = R := by omega
      obtain rfl : q = V := by omega
      clear hp1 hq1
      go_wp2_with fail
      go_returns
      exact ⟨rfl, by go_grown⟩

theorem sameL_cons (x y : S3) (r s : List S3) : sameL (x :: r) (y :: s) = (eqS x y && sameL r s) := rfl
theorem same_drop {l o : List S3} {k : Nat} (hk : k < l.length) (h : l.length = o.length) : sameL (l.drop k) (o.drop k) = (eqS (at_ l k) (at_ o k) && sameL (l.drop (k + 1)) (o.drop (k + 1))) := by
  rw [drop_at l hk, drop_at o (by omega), sameL_cons]

set_option maxRecDepth 100000 in
set_option maxHeartbeats 4000000 in
theorem equal_any (A A' : Option Addr) (c c' : Nat) (l o : List S3) (w : World) (hn : l.length ≤ 1000000000) (hn' : o.length ≤ 1000000000) (h : Lst w w.heap.size A l) (h' : Lst w w.heap.size A' o) :
    Calls Try.prog 51 #[.slice A l.length c, .slice A' o.length c'] w fun e w' => e = .returned (.bool (sameL l o)) ∧ Below w.heap.size w w' := by
  by_cases hk : l.length = o.length
  case neg =>
    rw [sameL_length hk]
    have h1 : ((l.length : Int) == (o.length : Int)) = false := by simp; omega
    clear h h'
    obtain ⟨N, hN⟩ : ∃ N, l.length = N := ⟨_, rfl⟩
    obtain ⟨M, hM⟩ : ∃ M, o.length = M := ⟨_, rfl⟩
    rw [hN] at hn hk h1 ⊢
    rw [hM] at hn' hk h1 ⊢
    clear hN hM
    go_enter Try.func51, Try.ntmps51
    go_wp2
    go_ret
    exact ⟨rfl, by go_grown⟩
  have HL := Lib.hid h
  have HO := Lib.hid h'
  obtain ⟨R, hR⟩ : ∃ R, sameL l o = R := ⟨_, rfl⟩
  have HR := Lib.hid hR
  rw [hR, ← hk]
  obtain ⟨N, hN⟩ : ∃ N, l.length = N := ⟨_, rfl⟩
  have HN := Lib.hid hN
  have HM := Lib.hid (hk.symm.trans hN)
  rw [hN] at hn ⊢
  clear h h' hR hN hn' hk
  go_enter Try.func51, Try.ntmps51
  go_wp2_with fail
  go_loopw [13] (fun i wr => ∃ (k : Nat), k ≤ N ∧ i = .int .i64 k ∧ sameL (l.drop k) (o.drop k) = R ∧ Below w.heap.size w wr) (fun i wr => N - (intOf i).toNat)
  case atStart => exact ⟨0, by omega, rfl, by simpa using HR.out, by go_grown⟩
  case round =>
    obtain ⟨k, hkn, rfl, hs, hb⟩ := hrel
    by_cases hlt : k < N
    · obtain ⟨ad, rfl, had, c0, c1, c2⟩ := el (k := k) (HL.out.below hb) (by rw [HN.out]; exact hlt)
      obtain ⟨ad', rfl, had', d0, d1, d2⟩ := el (k := k) (HO.out.below hb) (by rw [HM.out]; exact hlt)
      rw [same_drop (by rw [HN.out]; exact hlt) (by rw [HN.out, HM.out])] at hs
      obtain ⟨x, hx⟩ : ∃ x, at_ l k = x := ⟨_, rfl⟩
      obtain ⟨y, hy⟩ : ∃ y, at_ o k = y := ⟨_, rfl⟩
      rw [hx] at c0 c1 c2 hs
      rw [hy] at d0 d1 d2 hs
      clear hx hy
      obtain ⟨a, n, b⟩ := x
      obtain ⟨a', n', b'⟩ := y
      simp only at c0 c1 c2 d0 d1 d2
      have hsw := hb.size
      have HS := Lib.hid hs
      clear hs
      by_cases he : a = a' ∧ n = n' ∧ b = b'
      · obtain ⟨rfl, rfl, rfl⟩ := he
        go_wp2
        go_region
        go_wp2
        go_roundw
        case rel => exact ⟨k + 1, by omega, by go_num, by have := HS.out; rw [(eqS_iff _ _).2 rfl] at this; simpa using this, hb.drew⟩
        case measure => simp [intOf]; omega
      · have e2 : R = false := by
          have := HS.out
          rw [show eqS ⟨a, n, b⟩ ⟨a', n', b'⟩ = false from by cases hq : eqS ⟨a, n, b⟩ ⟨a', n', b'⟩ with
            | false => rfl
            | true => exact absurd ((eqS_iff _ _).1 hq) (fun e => he (by injection e with e1 e2 e3; exact ⟨e1, e2, e3⟩))] at this
          simpa using this.symm
        subst e2
        by_cases ha : a = a'
        · subst ha
          by_cases hm : n = n'
          · subst hm
            have hbb : ¬ b = b' := fun e => he ⟨rfl, rfl, e⟩
            clear he
            go_wp2
            go_region
            go_wp2
            go_ret
            exact ⟨rfl, hb.drew⟩
          · clear he
            go_wp2
            go_region
            go_wp2
            go_ret
            exact ⟨rfl, hb.drew⟩
        · clear he
          go_wp2
          go_region
          go_wp2
          go_ret
          exact ⟨rfl, hb.drew⟩
    · obtain rfl : k = N := by omega
      rw [List.drop_eq_nil_of_le (by rw [HN.out]; omega), List.drop_eq_nil_of_le (by rw [HM.out]; omega)] at hs
      obtain rfl : R = true := hs.symm
      clear hs
      go_wp2
      go_ret
      exact ⟨rfl, hb⟩

set_option maxRecDepth 100000 in
theorem same_any (A A' : Option Addr) (c c' : Nat) (l o : List S3) (w : World) (hn : l.length ≤ 1000000000) (hn' : o.length ≤ 1000000000) (h : Lst w w.heap.size A l) (h' : Lst w w.heap.size A' o) :
    Calls Try.prog 23 #[.slice A l.length c, .slice A' o.length c'] w fun e w' => e = .returned (.bool (sameL l o)) ∧ Below w.heap.size w w' := by
  have hb0 : Below w.heap.size w w := Below.refl _ _
  go_enter Try.func23, Try.ntmps23
  go_wp2_with fail
  refine (equal_any A A' c c' l o _ hn hn' h h').mono ?_
  rintro eE W1 ⟨rfl, hg1⟩
  have hb1 : Below w.heap.size w W1 := (show Below w.heap.size w _ by go_grown).trans (hg1.mono (by first | omega | go_size))
  obtain ⟨hc1, hf1⟩ := bcell hg1
  have hs1 := hg1.size
  try simp only [World.size_alloc, World.size_setCell, World.size_drew] at hs1
  clear hg1 hc1 hf1
  go_wp2_with fail
  go_ret
  exact ⟨rfl, by go_grown⟩

end Go.Proofs.Ytkejcdephnkkgaa.SgTotal
