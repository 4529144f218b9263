/- The document's buffers (dumbwaiterref05): contract of Cut. -/
import Derived.Test.YtkejcdephnkkgaaSgR3
namespace Go.Proofs.Ytkejcdephnkkgaa.SgR4
open Go.RowKit Rw Sg SgCheck SgClone SgTake SgTotal SgCut SgMath SgArgs SgR1 SgR2 SgR3
set_option linter.unusedVariables false
set_option linter.unusedSimpArgs false

theorem cutR_cons (f n : Int) (x : S3) (r : List S3) : cutR f n (x :: r) = if x.n ≤ f then cutR (f - x.n) n r else
      (if 0 < (if n < x.n - f then n else x.n - f) then [⟨x.a + f, (if n < x.n - f then n else x.n - f), x.w⟩] else []) ++ cutR 0 (n - (if n < x.n - f then n else x.n - f)) r := rfl

set_option maxRecDepth 100000 in
set_option maxHeartbeats 8000000 in
theorem r_cut (A : Option Addr) (c : Nat) (l : List S3) (f0 n0 : Int) (w : World) (hn : l.length ≤ 1000000000) (hraw : ∀ x ∈ l, x.Raw) (h : Lst w w.heap.size A l) (hf0 : 0 ≤ f0) (hf1 : f0 ≤ 18446744073709551615) (hn0 : 0 ≤ n0) (hn1 : n0 ≤ 18446744073709551615) :
    Calls Try.prog 22 #[.slice A l.length c, .int .u64 f0, .int .u64 n0] w (SegsP (cutL l f0 n0) w) := by
  have hb0 : Below w.heap.size w w := Below.refl _ _
  by_cases hk : checkL l = 0
  case neg =>
    have e1 : cutL l f0 n0 = [] := by unfold cutL; rw [if_neg hk]
    rw [e1]
    have h1 : (checkL l == 0) = false := by simp [hk]
    have hp := bad_pos hk
    have HR := Lib.hid (show ∀ W, Below w.heap.size w W → Calls Try.prog 15 #[.slice A l.length c] W fun e w' => e = .returned (.int .i64 (checkL l)) ∧ Below W.heap.size W w' from fun W hW => r_check A c l W hn hraw (Lst.on h (Nat.le_refl _) hW))
    obtain ⟨CK, hCK⟩ : ∃ CK, checkL l = CK := ⟨_, rfl⟩
    rw [hCK] at h1 HR
    obtain ⟨N, hN⟩ : ∃ N, l.length = N := ⟨_, rfl⟩
    rw [hN] at hp HR hn ⊢
    clear h hk hraw e1 hN hCK hf0 hf1 hn0 hn1
    go_enter Try.func22, Try.ntmps22
    go_wp2_with fail
    go_loopw [1, 2, 7, 8] (fun f n p i wr => p = .slice none 0 0 ∧ i = .int .i64 ((0 : Nat) : Int) ∧ Below w.heap.size w wr) (fun f n p i wr => 0)
    case atStart => exact ⟨rfl, rfl, by go_grown⟩
    case round =>
      obtain ⟨rfl, rfl, hb⟩ := hrel
      have dk : decide (((0 : Nat) : Int) < (N : Int)) = true := decide_eq_true (by omega)
      have dk2 : decide (0 < N) = true := decide_eq_true hp
      go_wp2_with fail
      refine (HR.out _ hb).mono ?_
      rintro e W2 ⟨rfl, hg2⟩
      have hb2 : Below w.heap.size w W2 := hb.trans (hg2.mono hb.size)
      clear hg2
      go_wp2_with fail
      go_ret
      exact nilP w _ hb2
  have hbuf := Buf.of hraw hk
  have e1 : cutL l f0 n0 = cutR f0 n0 l := by rw [hbuf.cut, cutR_eq l f0 n0 hbuf.val hf0 hn0]
  rw [e1]
  obtain ⟨R, hR⟩ : ∃ R, cutR f0 n0 l = R := ⟨_, rfl⟩
  rw [hR]
  have hlen : l.length ≤ 64 := (check_chk hk).2
  obtain ⟨i0, hi, hz0, hz1, hz2⟩ := sginfo
  have HI0 := Lib.hid hi
  have HI1 := Lib.hid hz0
  have HI2 := Lib.hid hz1
  have HI3 := Lib.hid hz2
  have HL := Lib.hid h
  have HV := Lib.hid hbuf.val
  have HRR := Lib.hid hR
  have HCK := Lib.hid (show ∀ W, Below w.heap.size w W → Calls Try.prog 15 #[.slice A l.length c] W fun e w' => e = .returned (.int .i64 0) ∧ Below W.heap.size W w' from fun W hW => by have := r_check A c l W hn hraw (Lst.on h (Nat.le_refl _) hW); rwa [hk] at this)
  obtain ⟨N, hN⟩ : ∃ N, l.length = N := ⟨_, rfl⟩
  have HN := Lib.hid hN
  rw [hN] at HCK hlen ⊢
  clear h hR hraw hN hk hi hz0 hz1 hz2 hn e1 hbuf
  go_enter Try.func22, Try.ntmps22
  go_wp2_with fail
  go_loopw [1, 2, 7, 8] (fun fv nv v i wr => ∃ (k : Nat) (f n : Int) (T : List S3) (A1 : Option Addr) (c1 : Nat), k ≤ N ∧ T.length ≤ k ∧ fv = .int .u64 f ∧ nv = .int .u64 n ∧ 0 ≤ f ∧ f ≤ 18446744073709551615 ∧ 0 ≤ n ∧ n ≤ 18446744073709551615 ∧ v = .slice A1 T.length c1 ∧ i = .int .i64 k ∧ Hid (T ++ cutR f n (l.drop k) = R) ∧ Hid (wr.ownsRow w.heap.size 73 3 (.slice A1 T.length c1) T.length (row T)) ∧ Below w.heap.size w wr) (fun fv nv v i wr => N - (intOf i).toNat)
  case atStart => exact ⟨0, f0, n0, [], none, 0, by omega, by simp, rfl, rfl, hf0, hf1, hn0, hn1, rfl, rfl, Lib.hid (by simpa using HRR.out), Lib.hid ⟨rfl, .inl ⟨rfl, rfl⟩⟩, by go_grown⟩
  case round =>
    clear hf0 hf1 hn0 hn1 HRR
    obtain ⟨k, f, n, T, A1, c1, hkn, hTk, rfl, rfl, hf0, hf1, hn0, hn1, rfl, rfl, HT, HO, hb⟩ := hrel
    by_cases hlt : k < N
    · have dk : decide ((k : Int) < (N : Int)) = true := decide_eq_true (by omega)
      go_wp2_with fail
      refine (HCK.out _ hb).mono ?_
      rintro e W2 ⟨rfl, hg2⟩
      have hb2 : Below w.heap.size w W2 := hb.trans (hg2.mono hb.size)
      have hs2 := hb2.size
      obtain ⟨ad, rfl, had, c0, c1', c2'⟩ := el (k := k) (HL.out.below hb2) (by rw [HN.out]; exact hlt)
      have ht := HT.out
      rw [drop_at l (by rw [HN.out]; exact hlt), cutR_cons] at ht
      have hxv := HV.out _ (at_mem l (show k < l.length by rw [HN.out]; exact hlt))
      obtain ⟨x, hx⟩ : ∃ x, at_ l k = x := ⟨_, rfl⟩
      rw [hx] at c0 c1' c2' ht hxv
      have HO2 := Lib.hid (show W2.ownsRow w.heap.size 73 3 (.slice A1 T.length c1) T.length (row T) from Own.own_ne HO.out (only_of_below hg2 none) (fun b e => by cases e))
      obtain ⟨r0, r1, r2, r3⟩ := hxv
      obtain ⟨a, s, bw⟩ := x
      simp only at c0 c1' c2' ht r0 r1 r2 r3
      have g0 : IntKind.u64.wrap s = s := by rw [IntKind.wrap_u64]; omega
      clear hx hg2 HT
      by_cases hsf : s ≤ f
      · rw [if_pos hsf] at ht
        have g1 : IntKind.u64.wrap (f - s) = f - s := by rw [IntKind.wrap_u64]; omega
        have ds : decide (s ≤ f) = true := decide_eq_true hsf
        have HX := Lib.hid ht
        clear ht
        go_wp2_with fail
        go_roundw
        case rel => exact ⟨k + 1, f - s, n, T, A1, c1, by omega, by omega, rfl, rfl, by omega, by omega, hn0, hn1, rfl, by go_num, HX, Lib.hid (HO2.out.alloc _), by go_grown⟩
        case measure => simp [intOf]; omega
      · rw [if_neg hsf] at ht
        have g1 : IntKind.u64.wrap (s - f) = s - f := by rw [IntKind.wrap_u64]; omega
        have ds : decide (s ≤ f) = false := decide_eq_false hsf
        obtain ⟨M, hM⟩ : ∃ M, (if n < s - f then n else s - f) = M := ⟨_, rfl⟩
        rw [hM] at ht
        have hM0 : 0 ≤ M := by rw [← hM]; split <;> omega
        have hMn : M ≤ n := by rw [← hM]; split <;> omega
        have hMs : M ≤ s - f := by rw [← hM]; split <;> omega
        have g2 : IntKind.u64.wrap (n - M) = n - M := by rw [IntKind.wrap_u64]; omega
        by_cases hM1 : 0 < M
        · rw [if_pos hM1] at ht
          have g3 : IntKind.u64.wrap (a + f) = a + f := by rw [IntKind.wrap_u64]; omega
          have g4 : IntKind.u32.wrap M = M := by rw [IntKind.wrap_u32]; omega
          have dm : decide (0 < M) = true := decide_eq_true hM1
          have HX := Lib.hid (show (T ++ [⟨a + f, M, bw⟩]) ++ cutR 0 (n - M) (l.drop (k + 1)) = R from by rw [List.append_assoc]; exact ht)
          have hl1 := Lib.hid (show (row [⟨a + f, M, bw⟩]).length = 1 * 3 from row_length _)
          clear ht
          have HO3 := Lib.hid (show ((W2.alloc (.cells #[.int .u64 a, .int .u32 s, .bool bw] 73)).alloc (.cells #[.int .u64 (a + f), .int .u32 M, .bool bw] 73)).ownsRow w.heap.size 73 3 (.slice A1 T.length c1) T.length (row T) from (HO2.out.alloc _).alloc _)
          have HN3 := Lib.hid (show ∀ j u, (row [⟨a + f, M, bw⟩])[j]? = some u → ((W2.alloc (.cells #[.int .u64 a, .int .u32 s, .bool bw] 73)).alloc (.cells #[.int .u64 (a + f), .int .u32 M, .bool bw] 73)).cell? ((⟨W2.heap.size + 1, 0, none⟩ : Addr).add j) = some u from by
            intro j u hu
            rw [row_single] at hu
            have e : (W2.alloc (.cells #[.int .u64 a, .int .u32 s, .bool bw] 73)).heap.size = W2.heap.size + 1 := by simp
            rw [← e]
            match j, hu with
            | 0, hu => cases hu; exact World.cell?_alloc_new _ _ _ _
            | 1, hu => cases hu; exact World.cell?_alloc_new _ _ _ _
            | 2, hu => cases hu; exact World.cell?_alloc_new _ _ _ _)
          go_wp2_with (at_builtin; refine wpList_append_own _ rfl _ _ 23 rfl w.heap.size 73 i0 (.agg #[.int .u64 0, .int .u32 0, .bool false]) 3 16 Try.underlying23 HI0.out HI1.out HI2.out HI3.out rfl (by decide) (.slice A1 T.length c1) T.length (row T) rfl HO3.out ⟨W2.heap.size + 1, 0, none⟩ 1 1 (row [⟨a + f, M, bw⟩]) rfl hl1.out HN3.out (row_one _) (by unfold maxLen; omega) (by omega) (by simp; omega) ?_)
          intro v' W4 hown hg4 _
          have hb4 : Below w.heap.size w W4 := ((hb2.alloc (by omega) (.cells #[.int .u64 a, .int .u32 s, .bool bw] 73)).alloc (by simp; omega) (.cells #[.int .u64 (a + f), .int .u32 M, .bool bw] 73)).grown hg4 (by simp; omega) (fun g e => SgClone.own_block HO2.out g e)
          rw [← row_append, show T.length + 1 = (T ++ [(⟨a + f, M, bw⟩ : S3)]).length from by simp] at hown
          obtain ⟨A4, c4, rfl⟩ := SgClone.own_slice hown
          have H4 := Lib.hid hown
          clear hown hg4
          go_wp2_with fail
          go_roundw
          case rel => exact ⟨k + 1, 0, n - M, T ++ [⟨a + f, M, bw⟩], A4, c4, by omega, by simp; omega, rfl, rfl, by omega, by omega, by omega, by omega, rfl, by go_num, HX, H4, hb4⟩
          case measure => simp [intOf]; omega
        · rw [if_neg hM1, List.nil_append] at ht
          have dm : decide (0 < M) = false := decide_eq_false hM1
          have hM2 : M = 0 := by omega
          have hn2 : n = 0 := by rw [← hM] at hM2; split at hM2 <;> omega
          have HX := Lib.hid (show T ++ cutR 0 0 (l.drop (k + 1)) = R from by rw [hM2, hn2] at ht; simpa using ht)
          subst hn2
          clear ht hM2
          go_wp2_with fail
          go_roundw
          case rel => exact ⟨k + 1, 0, 0, T, A1, c1, by omega, by omega, rfl, by first | rfl | (congr 1; omega), by omega, by omega, by omega, by omega, rfl, by go_num, HX, Lib.hid (HO2.out.alloc _), by go_grown⟩
          case measure => simp [intOf]; omega
    · obtain rfl : k = N := by omega
      have dk : decide ((k : Int) < (k : Int)) = false := decide_eq_false (by omega)
      have e0 : l.drop k = [] := List.drop_eq_nil_of_le (by rw [HN.out]; omega)
      have ht := HT.out
      rw [e0] at ht
      obtain rfl : T = R := by simpa [cutR] using ht
      clear ht
      go_wp2_with fail
      go_ret
      exact ownP HO.out hb

end Go.Proofs.Ytkejcdephnkkgaa.SgR4
