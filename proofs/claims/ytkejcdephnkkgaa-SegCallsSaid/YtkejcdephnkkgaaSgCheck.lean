
/- Segments: the contracts of Check and Total. -/
import Derived.Test.YtkejcdephnkkgaaSgL
import Derived.BigRegion
import Derived.LoopN
namespace Go.Proofs.Ytkejcdephnkkgaa.SgCheck
open Go.RowKit Rw Sg
set_option linter.unusedVariables false
set_option linter.unusedSimpArgs false

/-- The cells of one element. -/
theorem el {w : World} {B : Nat} {A : Option Addr} {l : List S3} (h : Lst w B A l) {k : Nat} (hk : k < l.length) : ∃ ad, A = some ad ∧ ad.block < B ∧ w.cell? (ad.add (k * 3)) = some (.int .u64 (at_ l k).a) ∧
    w.cell? ⟨(ad.add (k * 3)).block, (ad.add (k * 3)).off + 1, none⟩ = some (.int .u32 (at_ l k).n) ∧ w.cell? ⟨(ad.add (k * 3)).block, (ad.add (k * 3)).off + 2, none⟩ = some (.bool (at_ l k).w) := by
  obtain ⟨ad, hA, had, hc⟩ := h (by omega)
  refine ⟨ad, hA, had, ?_, ?_, ?_⟩
  · rw [el0 hc hk (by decide), cell0]
  · rw [elj hc hk 1 (by decide) (by decide), cell1]
  · rw [elj hc hk 2 (by decide) (by decide), cell2]

theorem chk_cons (s : Int) (t : Bool) (x : S3) (r : List S3) : chk s t (x :: r) = if x.n = 0 ∨ 18446744073709551615 - x.a < x.n - 1 then 2 else if t = true ∧ x.w = false then 2 else chk (s + x.n) x.w r := rfl

/-- A value without an address; nothing that was has changed. -/
def Gives (B : Nat) (w : World) (v : Value) (e : Ending) (w' : World) : Prop := e = .returned v ∧ Below B w w'

set_option maxRecDepth 100000 in
set_option maxHeartbeats 4000000 in
theorem check_any (A : Option Addr) (c : Nat) (l : List S3) (w : World) (hn : l.length ≤ 1000000000) (hraw : ∀ x ∈ l, x.Raw) (h : Lst w w.heap.size A l) :
    Calls Try.prog 14 #[.slice A l.length c] w fun e w' => e = .returned (.int .i64 (checkL l)) ∧ Below w.heap.size w w' := by
  by_cases hk : 64 < l.length
  case pos =>
    have e : checkL l = 3 := by unfold checkL; rw [if_pos hk]
    have h1 : decide ((64 : Int) < (l.length : Int)) = true := decide_eq_true (by omega)
    rw [e]
    go_enter Try.func14, Try.ntmps14
    go_wp2
    go_ret
    exact ⟨rfl, by go_grown⟩
  obtain ⟨R, hR⟩ : ∃ R, chk 0 false l = R := ⟨_, rfl⟩
  have e : checkL l = R := by unfold checkL; rw [if_neg hk, hR]
  rw [e]
  have HL := Lib.hid h
  have HR := Lib.hid hR
  have HW := Lib.hid hraw
  clear h hR hraw e
  obtain ⟨N, hN⟩ : ∃ N, l.length = N := ⟨_, rfl⟩
  have HN := Lib.hid hN
  rw [hN] at hk hn ⊢
  clear hN
  have h1 : decide ((64 : Int) < (N : Int)) = false := decide_eq_false (by omega)
  go_enter Try.func14, Try.ntmps14
  go_wp2_with fail
  go_loopw [3, 4, 12] (fun s b i wr => ∃ (k : Nat) (sm : Int) (t : Bool), k ≤ N ∧ s = .int .u64 sm ∧ b = .bool t ∧ i = .int .i64 k ∧ 0 ≤ sm ∧ sm ≤ k * 4294967295 ∧ chk sm t (l.drop k) = R ∧ Below w.heap.size w wr) (fun s b i wr => N - (intOf i).toNat)
  case atStart => exact ⟨0, 0, false, by omega, rfl, rfl, rfl, by omega, by omega, HR.out, by go_grown⟩
  case round =>
    obtain ⟨k, sm, t, hkn, rfl, rfl, rfl, hs0, hs1, hch, hb⟩ := hrel
    by_cases hlt : k < N
    · obtain ⟨ad, rfl, had, c0, c1, c2⟩ := el (k := k) (HL.out.below hb) (by rw [HN.out]; exact hlt)
      rw [drop_at l (by rw [HN.out]; exact hlt)] at hch
      obtain ⟨x, hx⟩ : ∃ x, at_ l k = x := ⟨_, rfl⟩
      rw [hx] at c0 c1 c2 hch
      obtain ⟨r0, r1, r2, r3⟩ : x.Raw := hx ▸ HW.out _ (at_mem l (by rw [HN.out]; exact hlt))
      obtain ⟨a, n, b⟩ := x
      simp only at c0 c1 c2 r0 r1 r2 r3
      rw [chk_cons] at hch
      simp only at hch
      have HCH := Lib.hid hch
      clear hx hch
      have hsw := hb.size
      by_cases n0 : n = 0
      · subst n0
        have e2 : R = 2 := by rw [← HCH.out, if_pos (.inl rfl)]
        subst e2
        go_wp2_with fail
        go_ret
        exact ⟨rfl, by go_grown⟩
      · have f1 : (n == 0) = false := by simp; omega
        have n1 : 1 ≤ n := by omega
        by_cases ov : 18446744073709551615 - a < n - 1
        · have f2 : decide (18446744073709551615 - a < n - 1) = true := decide_eq_true ov
          have e2 : R = 2 := by rw [← HCH.out, if_pos (.inr ov)]
          subst e2
          clear n0 ov
          go_wp2_with fail
          go_ret
          exact ⟨rfl, by go_grown⟩
        · have f2 : decide (18446744073709551615 - a < n - 1) = false := decide_eq_false ov
          have HO := Lib.hid ov
          have HN0 := Lib.hid n0
          have f4 : IntKind.u64.wrap (sm + n) = sm + n := by rw [IntKind.wrap_u64]; omega
          clear n0 ov
          cases t with
          | true =>
            cases b with
            | true =>
              have e2 : chk (sm + n) true (l.drop (k + 1)) = R := by rw [← HCH.out, if_neg (by have := HO.out; have := HN0.out; omega), if_neg (by simp)]
              have HE := Lib.hid e2
              clear e2
              go_wp2_with fail
              go_roundw
              case rel => exact ⟨k + 1, sm + n, true, by omega, rfl, rfl, by go_num, by omega, by omega, HE.out, by go_grown⟩
              case measure => simp [intOf]; omega
            | false =>
              have e2 : R = 2 := by rw [← HCH.out, if_neg (by have := HO.out; have := HN0.out; omega), if_pos (by simp)]
              subst e2
              go_wp2_with fail
              go_ret
              exact ⟨rfl, by go_grown⟩
          | false =>
            have e2 : chk (sm + n) b (l.drop (k + 1)) = R := by rw [← HCH.out, if_neg (by have := HO.out; have := HN0.out; omega), if_neg (by simp)]
            have HE := Lib.hid e2
            clear e2
            go_wp2_with fail
            go_roundw
            case rel => exact ⟨k + 1, sm + n, b, by omega, rfl, rfl, by go_num, by omega, by omega, HE.out, by go_grown⟩
            case measure => simp [intOf]; omega
    · obtain rfl : k = N := by omega
      have e0 : l.drop k = [] := List.drop_eq_nil_of_le (by rw [HN.out]; omega)
      rw [e0] at hch
      unfold chk at hch
      by_cases hs : 4294967295 < sm
      · have f1 : decide (4294967295 < sm) = true := decide_eq_true hs
        rw [if_pos hs] at hch
        subst hch
        clear hs
        go_wp2_with fail
        go_ret
        exact ⟨rfl, by go_grown⟩
      · have f1 : decide (4294967295 < sm) = false := decide_eq_false hs
        rw [if_neg hs] at hch
        subst hch
        clear hs
        go_wp2_with fail
        go_ret
        exact ⟨rfl, by go_grown⟩

end Go.Proofs.Ytkejcdephnkkgaa.SgCheck
