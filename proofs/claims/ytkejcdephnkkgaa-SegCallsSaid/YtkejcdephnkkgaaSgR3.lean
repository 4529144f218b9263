/- The document's buffers (dumbwaiterref05): contracts of Total, Part, Cut. -/
import Derived.Test.YtkejcdephnkkgaaSgR2
import Derived.Test.YtkejcdephnkkgaaOwn
namespace Go.Proofs.Ytkejcdephnkkgaa.SgR3
open Go.RowKit Rw Sg SgCheck SgClone SgTake SgTotal SgCut SgMath SgArgs SgR1 SgR2
set_option linter.unusedVariables false
set_option linter.unusedSimpArgs false

/-- What is not a buffer has at least one segment. -/
theorem bad_pos {l : List S3} (h : checkL l ≠ 0) : 0 < l.length := by
  cases l with
  | nil => exact absurd rfl h
  | cons x r => simp

set_option maxRecDepth 100000 in
set_option maxHeartbeats 4000000 in
theorem r_total (A : Option Addr) (c : Nat) (l : List S3) (w : World) (hn : l.length ≤ 1000000000) (hraw : ∀ x ∈ l, x.Raw) (h : Lst w w.heap.size A l) :
    Calls Try.prog 13 #[.slice A l.length c] w fun e w' => e = .returned (.tuple #[.int .u64 (rd l), .int .u64 (wr l)]) ∧ Below w.heap.size w w' := by
  have hb0 : Below w.heap.size w w := Below.refl _ _
  by_cases hk : checkL l = 0
  case neg =>
    have e1 : rd l = 0 := by unfold rd; rw [if_neg hk]
    have e2 : wr l = 0 := by unfold wr; rw [if_neg hk]
    rw [e1, e2]
    have h1 : (checkL l == 0) = false := by simp [hk]
    have hp := bad_pos hk
    have H := Lib.hid h
    have HR := Lib.hid (show ∀ W, Below w.heap.size w W → Calls Try.prog 15 #[.slice A l.length c] W fun e w' => e = .returned (.int .i64 (checkL l)) ∧ Below W.heap.size W w' from fun W hW => r_check A c l W hn hraw (Lst.on h (Nat.le_refl _) hW))
    obtain ⟨CK, hCK⟩ : ∃ CK, checkL l = CK := ⟨_, rfl⟩
    rw [hCK] at h1 HR
    obtain ⟨N, hN⟩ : ∃ N, l.length = N := ⟨_, rfl⟩
    rw [hN] at hp HR hn ⊢
    clear h hk hraw e1 e2 hN hCK
    go_enter Try.func13, Try.ntmps13
    go_wp2_with fail
    go_loopw [4, 5, 6] (fun p q i wr => p = .int .u64 0 ∧ q = .int .u64 0 ∧ i = .int .i64 ((0 : Nat) : Int) ∧ Below w.heap.size w wr) (fun p q i wr => 0)
    case atStart => exact ⟨rfl, rfl, rfl, by go_grown⟩
    case round =>
      obtain ⟨rfl, rfl, rfl, hb⟩ := hrel
      have dk : decide (((0 : Nat) : Int) < (N : Int)) = true := decide_eq_true (by omega)
      have dk2 : decide (0 < N) = true := decide_eq_true hp
      go_wp2_with fail
      refine (HR.out _ hb).mono ?_
      rintro e W2 ⟨rfl, hg2⟩
      have hb2 : Below w.heap.size w W2 := hb.trans (hg2.mono hb.size)
      clear hg2
      go_wp2_with fail
      go_returns
      exact ⟨rfl, hb2⟩
  obtain ⟨R, hR⟩ : ∃ R, tot false l = R := ⟨_, rfl⟩
  obtain ⟨V, hV⟩ : ∃ V, tot true l = V := ⟨_, rfl⟩
  have e1 : rd l = R := by unfold rd; rw [if_pos hk, hR]
  have e2 : wr l = V := by unfold wr; rw [if_pos hk, hV]
  have hsum := check_sum hk
  rw [hR, hV] at hsum
  have hR0 : 0 ≤ R := hR ▸ tot_nonneg hraw
  have hV0 : 0 ≤ V := hV ▸ tot_nonneg hraw
  rw [e1, e2]
  have HL := Lib.hid h
  have HW := Lib.hid hraw
  have HRD := Lib.hid hR
  have HWR := Lib.hid hV
  have HCK := Lib.hid (show ∀ W, Below w.heap.size w W → Calls Try.prog 15 #[.slice A l.length c] W fun e w' => e = .returned (.int .i64 0) ∧ Below W.heap.size W w' from fun W hW => by have := r_check A c l W hn hraw (Lst.on h (Nat.le_refl _) hW); rwa [hk] at this)
  obtain ⟨N, hN⟩ : ∃ N, l.length = N := ⟨_, rfl⟩
  have HN := Lib.hid hN
  rw [hN] at HCK hn ⊢
  clear h hR hV hraw e1 e2 hN hk
  go_enter Try.func13, Try.ntmps13
  go_wp2_with fail
  go_loopw [4, 5, 6] (fun r v i wr => ∃ (k : Nat) (p q : Int), k ≤ N ∧ r = .int .u64 p ∧ v = .int .u64 q ∧ i = .int .i64 k ∧ 0 ≤ p ∧ 0 ≤ q ∧ p + tot false (l.drop k) = R ∧ q + tot true (l.drop k) = V ∧ Below w.heap.size w wr) (fun r v i wr => N - (intOf i).toNat)
  case atStart => exact ⟨0, 0, 0, by omega, rfl, rfl, rfl, by omega, by omega, by simpa using HRD.out, by simpa using HWR.out, by go_grown⟩
  case round =>
    obtain ⟨k, p, q, hkn, rfl, rfl, rfl, hp0, hq0, hp1, hq1, hb⟩ := hrel
    by_cases hlt : k < N
    · have dk : decide ((k : Int) < (N : Int)) = true := decide_eq_true (by omega)
      rw [drop_at l (by rw [HN.out]; exact hlt), tot_cons] at hp1 hq1
      have hd0 : 0 ≤ tot false (l.drop (k + 1)) := tot_nonneg fun x hx => HW.out x (List.mem_of_mem_drop hx)
      have hd1 : 0 ≤ tot true (l.drop (k + 1)) := tot_nonneg fun x hx => HW.out x (List.mem_of_mem_drop hx)
      go_wp2_with fail
      refine (HCK.out _ hb).mono ?_
      rintro e W2 ⟨rfl, hg2⟩
      have hb2 : Below w.heap.size w W2 := hb.trans (hg2.mono hb.size)
      obtain ⟨ad, rfl, had, c0, c1, c2⟩ := el (k := k) (HL.out.below hb2) (by rw [HN.out]; exact hlt)
      obtain ⟨x, hx⟩ : ∃ x, at_ l k = x := ⟨_, rfl⟩
      rw [hx] at c0 c1 c2 hp1 hq1
      obtain ⟨r0, r1, r2, r3⟩ : x.Raw := hx ▸ HW.out _ (at_mem l (by rw [HN.out]; exact hlt))
      obtain ⟨a, n, b⟩ := x
      simp only at c0 c1 c2 r0 r1 r2 r3 hp1 hq1
      have g0 : IntKind.u64.wrap n = n := by rw [IntKind.wrap_u64]; omega
      clear hx hg2
      cases b with
      | true =>
        have hp2 : p + tot false (l.drop (k + 1)) = R := by simpa using hp1
        have hq2 : q + n + tot true (l.drop (k + 1)) = V := by simp at hq1; omega
        have f4 : IntKind.u64.wrap (q + n) = q + n := by rw [IntKind.wrap_u64]; omega
        have HP := Lib.hid hp2
        have HQ := Lib.hid hq2
        clear hp1 hq1 hp2 hq2 hd0 hd1
        go_wp2_with fail
        go_roundw
        case rel => exact ⟨k + 1, p, q + n, by omega, rfl, rfl, by go_num, by omega, by omega, HP.out, HQ.out, hb2⟩
        case measure => simp [intOf]; omega
      | false =>
        have hp2 : p + n + tot false (l.drop (k + 1)) = R := by simp at hp1; omega
        have hq2 : q + tot true (l.drop (k + 1)) = V := by simpa using hq1
        have f4 : IntKind.u64.wrap (p + n) = p + n := by rw [IntKind.wrap_u64]; omega
        have HP := Lib.hid hp2
        have HQ := Lib.hid hq2
        clear hp1 hq1 hp2 hq2 hd0 hd1
        go_wp2_with fail
        go_roundw
        case rel => exact ⟨k + 1, p + n, q, by omega, rfl, rfl, by go_num, by omega, by omega, HP.out, HQ.out, hb2⟩
        case measure => simp [intOf]; omega
    · obtain rfl : k = N := by omega
      have dk : decide ((k : Int) < (k : Int)) = false := decide_eq_false (by omega)
      have e0 : l.drop k = [] := List.drop_eq_nil_of_le (by rw [HN.out]; omega)
      rw [e0] at hp1 hq1
      unfold tot at hp1 hq1
      obtain rfl : p = R := by omega
      obtain rfl : q = V := by omega
      clear hp1 hq1
      go_wp2_with fail
      go_returns
      exact ⟨rfl, hb⟩

theorem nilP (w w' : World) (hb : Below w.heap.size w w') : SegsP [] w (.returned (.slice none 0 0)) w' :=
  ⟨none, 0, rfl, IsRow.none_, ⟨Nat.le_refl _, fun _ => ⟨rfl, rfl⟩, (fun ad e => by cases e), ⟨rfl, .inl ⟨rfl, rfl⟩⟩⟩, hb⟩
theorem ownP {w w' : World} {A : Option Addr} {c : Nat} {T : List S3} (ho : w'.ownsRow w.heap.size 73 3 (.slice A T.length c) T.length (row T)) (hb : Below w.heap.size w w') : SegsP T w (.returned (.slice A T.length c)) w' :=
  ⟨A, c, rfl, own_lst ho, ⟨own_cap ho, own_none ho, (fun ad e => by subst e; exact SgClone.own_block ho ad.block rfl), ho⟩, hb⟩

set_option maxRecDepth 100000 in
set_option maxHeartbeats 4000000 in
theorem r_part (A : Option Addr) (c : Nat) (l : List S3) (b : Bool) (w : World) (hn : l.length ≤ 1000000000) (hraw : ∀ x ∈ l, x.Raw) (h : Lst w w.heap.size A l) :
    Calls Try.prog 20 #[.slice A l.length c, .bool b] w (SegsP (partL l b) w) := by
  have hb0 : Below w.heap.size w w := Below.refl _ _
  by_cases hk : checkL l = 0
  case neg =>
    have e1 : partL l b = [] := by unfold partL cutL; rw [if_neg hk, if_neg hk]; split <;> rfl
    rw [e1]
    have h1 : (checkL l == 0) = false := by simp [hk]
    have hp := bad_pos hk
    have HR := Lib.hid (show ∀ W, Below w.heap.size w W → Calls Try.prog 15 #[.slice A l.length c] W fun e w' => e = .returned (.int .i64 (checkL l)) ∧ Below W.heap.size W w' from fun W hW => r_check A c l W hn hraw (Lst.on h (Nat.le_refl _) hW))
    obtain ⟨CK, hCK⟩ : ∃ CK, checkL l = CK := ⟨_, rfl⟩
    rw [hCK] at h1 HR
    obtain ⟨N, hN⟩ : ∃ N, l.length = N := ⟨_, rfl⟩
    rw [hN] at hp HR hn ⊢
    clear h hk hraw e1 hN hCK
    go_enter Try.func20, Try.ntmps20
    go_wp2_with fail
    go_loopw [5, 6] (fun p i wr => p = .slice none 0 0 ∧ i = .int .i64 ((0 : Nat) : Int) ∧ Below w.heap.size w wr) (fun p i wr => 0)
    case atStart => exact ⟨rfl, rfl, by go_grown⟩
    case round =>
      obtain ⟨rfl, rfl, hb⟩ := hrel
      have dk : decide (((0 : Nat) : Int) < (N : Int)) = true := decide_eq_true (by omega)
      have dk2 : decide (0 < N) = true := decide_eq_true hp
      go_wp2_with fail
      refine (HR.out _ hb).mono ?_
      rintro e W2 ⟨rfl, hg2⟩
      have hb2 : Below w.heap.size w W2 := hb.trans (hg2.mono hb.size)
      clear hg2
      go_wp2_with fail
      go_ret
      exact nilP w _ hb2
  rw [part_only (Buf.of hraw hk)]
  obtain ⟨R, hR⟩ : ∃ R, onlyL b l = R := ⟨_, rfl⟩
  rw [hR]
  have hlen : l.length ≤ 64 := (check_chk hk).2
  obtain ⟨i0, hi, hz0, hz1, hz2⟩ := sginfo
  have HI0 := Lib.hid hi
  have HI1 := Lib.hid hz0
  have HI2 := Lib.hid hz1
  have HI3 := Lib.hid hz2
  have HL := Lib.hid h
  have HRR := Lib.hid hR
  have HCK := Lib.hid (show ∀ W, Below w.heap.size w W → Calls Try.prog 15 #[.slice A l.length c] W fun e w' => e = .returned (.int .i64 0) ∧ Below W.heap.size W w' from fun W hW => by have := r_check A c l W hn hraw (Lst.on h (Nat.le_refl _) hW); rwa [hk] at this)
  obtain ⟨N, hN⟩ : ∃ N, l.length = N := ⟨_, rfl⟩
  have HN := Lib.hid hN
  rw [hN] at HCK hlen ⊢
  clear h hR hraw hN hk hi hz0 hz1 hz2 hn
  go_enter Try.func20, Try.ntmps20
  go_wp2_with fail
  go_loopw [5, 6] (fun v i wr => ∃ (k : Nat) (T : List S3) (A1 : Option Addr) (c1 : Nat), k ≤ N ∧ T.length ≤ k ∧ v = .slice A1 T.length c1 ∧ i = .int .i64 k ∧ Hid (T ++ onlyL b (l.drop k) = R) ∧ Hid (wr.ownsRow w.heap.size 73 3 (.slice A1 T.length c1) T.length (row T)) ∧ Below w.heap.size w wr) (fun v i wr => N - (intOf i).toNat)
  case atStart => exact ⟨0, [], none, 0, by omega, by simp, rfl, rfl, Lib.hid (by simpa using HRR.out), Lib.hid ⟨rfl, .inl ⟨rfl, rfl⟩⟩, by go_grown⟩
  case round =>
    obtain ⟨k, T, A1, c1, hkn, hTk, rfl, rfl, HT, HO, hb⟩ := hrel
    by_cases hlt : k < N
    · have dk : decide ((k : Int) < (N : Int)) = true := decide_eq_true (by omega)
      go_wp2_with fail
      refine (HCK.out _ hb).mono ?_
      rintro e W2 ⟨rfl, hg2⟩
      have hb2 : Below w.heap.size w W2 := hb.trans (hg2.mono hb.size)
      have hs2 := hb2.size
      obtain ⟨ad, rfl, had, c0, c1', c2'⟩ := el (k := k) (HL.out.below hb2) (by rw [HN.out]; exact hlt)
      have ht := HT.out
      rw [drop_at l (by rw [HN.out]; exact hlt), only_cons] at ht
      obtain ⟨x, hx⟩ : ∃ x, at_ l k = x := ⟨_, rfl⟩
      rw [hx] at c0 c1' c2' ht
      have HO2 := Lib.hid (show W2.ownsRow w.heap.size 73 3 (.slice A1 T.length c1) T.length (row T) from Own.own_ne HO.out (only_of_below hg2 none) (fun b e => by cases e))
      obtain ⟨a, n, bw⟩ := x
      simp only at c0 c1' c2' ht
      clear hx hg2 HT
      by_cases hbw : bw = b
      · rw [if_pos hbw] at ht
        subst hbw
        have eb : (bw == bw) = true := beq_self_eq_true bw
        have HX := Lib.hid (show (T ++ [⟨a, n, bw⟩]) ++ onlyL bw (l.drop (k + 1)) = R from by rw [List.append_assoc]; exact ht)
        have HO3 := Lib.hid (show (W2.alloc (.cells #[.int .u64 a, .int .u32 n, .bool bw] 73)).ownsRow w.heap.size 73 3 (.slice A1 T.length c1) T.length (row T) from HO2.out.alloc (.cells #[.int .u64 a, .int .u32 n, .bool bw] 73))
        have HN3 := Lib.hid (show ∀ j u, (row [⟨a, n, bw⟩])[j]? = some u → (W2.alloc (.cells #[.int .u64 a, .int .u32 n, .bool bw] 73)).cell? ((⟨W2.heap.size, 0, none⟩ : Addr).add j) = some u from by
          intro j u hu
          rw [row_single] at hu
          match j, hu with
          | 0, hu => cases hu; exact World.cell?_alloc_new _ _ _ _
          | 1, hu => cases hu; exact World.cell?_alloc_new _ _ _ _
          | 2, hu => cases hu; exact World.cell?_alloc_new _ _ _ _)
        have hl1 := Lib.hid (show (row [⟨a, n, bw⟩]).length = 1 * 3 from row_length _)
        clear ht
        go_wp2_with (at_builtin; refine wpList_append_own _ rfl _ _ 23 rfl w.heap.size 73 i0 (.agg #[.int .u64 0, .int .u32 0, .bool false]) 3 16 Try.underlying23 HI0.out HI1.out HI2.out HI3.out rfl (by decide) (.slice A1 T.length c1) T.length (row T) rfl HO3.out ⟨W2.heap.size, 0, none⟩ 1 1 (row [⟨a, n, bw⟩]) rfl hl1.out HN3.out (row_one _) (by unfold maxLen; omega) (by omega) (by simp; omega) ?_)
        intro v' W4 hown hg4 _
        have hb4 : Below w.heap.size w W4 := (hb2.alloc (by omega) (.cells #[.int .u64 a, .int .u32 n, .bool bw] 73)).grown hg4 (by simp; omega) (fun g e => SgClone.own_block HO2.out g e)
        rw [← row_append, show T.length + 1 = (T ++ [(⟨a, n, bw⟩ : S3)]).length from by simp] at hown
        obtain ⟨A4, c4, rfl⟩ := SgClone.own_slice hown
        have H4 := Lib.hid hown
        clear hown hg4
        go_wp2_with fail
        go_roundw
        case rel => exact ⟨k + 1, T ++ [⟨a, n, bw⟩], A4, c4, by omega, by simp; omega, rfl, by go_num, HX, H4, hb4⟩
        case measure => simp [intOf]; omega
      · rw [if_neg hbw] at ht
        have eb : (bw == b) = false := by cases bw <;> cases b <;> simp_all
        have HX := Lib.hid ht
        clear ht hbw
        go_wp2_with fail
        go_roundw
        case rel => exact ⟨k + 1, T, A1, c1, by omega, by omega, rfl, by go_num, HX, HO2, hb2⟩
        case measure => simp [intOf]; omega
    · obtain rfl : k = N := by omega
      have dk : decide ((k : Int) < (k : Int)) = false := decide_eq_false (by omega)
      have e0 : l.drop k = [] := List.drop_eq_nil_of_le (by rw [HN.out]; omega)
      have ht := HT.out
      rw [e0] at ht
      obtain rfl : T = R := by simpa [onlyL] using ht
      clear ht
      go_wp2_with fail
      go_ret
      exact ownP HO.out hb

end Go.Proofs.Ytkejcdephnkkgaa.SgR3
