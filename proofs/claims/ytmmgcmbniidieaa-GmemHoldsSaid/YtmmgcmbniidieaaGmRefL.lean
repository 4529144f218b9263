
/- The document's own memory: Load. -/
import Derived.Test.YtmmgcmbniidieaaGmRefP
import Derived.Test.YtmmgcmbniidieaaGmWordsM
namespace Go.Proofs.Ytmmgcmbniidieaa.GmRefP
open Go.RowKit Rw Le GmFind GmWord GmCheck GmNew GmCopyR GmRef GmRefN GmRefM GmLoad
set_option linter.unusedVariables false
set_option linter.unusedSimpArgs false

theorem word_cons (h : Nat → Int) (m : Nat) : wordI h (m + 1) = h 0 + 256 * wordI (fun j => h (1 + j)) m := by
  have := GmWordsM.word_split h 1 m
  rw [Nat.add_comm 1 m] at this
  rw [this]
  have e1 : wordI h 1 = h 0 := by show (0 : Int) + h 0 * 2 ^ (8 * 0) = h 0; simp
  have e2 : (2 : Int) ^ (8 * 1) = 256 := by decide
  rw [e1, e2]

set_option maxRecDepth 100000 in
theorem r_load_no (v : Value) (a nb : Int) (w : World) (hn : ¬(nb = 1 ∨ nb = 2 ∨ nb = 4 ∨ nb = 8)) : Calls Try.prog 15 #[v, .int .u64 a, .int .i64 nb] w (GmWord.Gives w.heap.size w (.tuple #[.int .u64 0, .int .i64 2])) := by
  unfold GmWord.Gives
  have h1 : (nb != 1) = true := by simp; omega
  have h2 : (nb != 2) = true := by simp; omega
  have h3 : (nb != 4) = true := by simp; omega
  have h4 : (nb != 8) = true := by simp; omega
  clear hn
  go_enter Try.func15, Try.ntmps15
  go_wp2_with fail
  go_returns
  exact ⟨rfl, by go_grown⟩

theorem one_of {nb : Int} (h : nb = 1 ∨ nb = 2 ∨ nb = 4 ∨ nb = 8) : ((nb != 1) = false) ∨ ((nb != 1) = true ∧ (nb != 2) = false) ∨ ((nb != 1) = true ∧ (nb != 2) = true ∧ (nb != 4) = false) ∨ ((nb != 1) = true ∧ (nb != 2) = true ∧ (nb != 4) = true ∧ (nb != 8) = false) := by
  rcases h with rfl | rfl | rfl | rfl <;> simp

set_option maxRecDepth 100000 in
set_option maxHeartbeats 4000000 in
theorem r_load_out {mm k c : Nat} {A : Option Addr} {r : Rg} {x : Value} {ps : List (Nat × Nat)} {g : Nat → Int} (a n : Int) (w : World) (h : RM w mm k c A r x ps g) (ha : 0 ≤ a ∧ a ≤ 18446744073709551615) (hn : n = 1 ∨ n = 2 ∨ n = 4 ∨ n = 8) (hp : place r k a n = none) :
    Calls Try.prog 15 #[.pointer (some ⟨mm, 0, none⟩), .int .u64 a, .int .i64 n] w (GmWord.Gives w.heap.size w (.tuple #[.int .u64 0, .int .i64 5])) := by
  unfold GmWord.Gives
  have HF := Lib.hid (h.find ha (n := n) (by omega))
  have HP := Lib.hid (show ∀ i, i < k → ¬ inR r a n i from fun i hi hin => by have := place_at h.rin hi hin; rw [hp] at this; cases this)
  have f2 : IntKind.u64.wrap n = n := by rw [IntKind.wrap_u64]; omega
  have Q := one_of hn
  clear h hp hn
  rcases Q with q1 | ⟨q1, q2⟩ | ⟨q1, q2, q3⟩ | ⟨q1, q2, q3, q4⟩
  all_goals
    go_enter Try.func15, Try.ntmps15
    go_wp2_with fail
    refine HF.out.mono ?_
    rintro e W ⟨hb, ⟨i, hi, hin, _, rfl⟩ | ⟨hno, rfl⟩⟩
    · exact (HP.out i hi hin).elim
    · go_wp2_with fail
      go_returns
      exact ⟨rfl, by go_grown⟩

set_option maxRecDepth 100000 in
set_option maxHeartbeats 8000000 in
theorem r_load_ok {mm k c : Nat} {A : Option Addr} {r : Rg} {x : Value} {ps : List (Nat × Nat)} {g : Nat → Int} (a : Int) (n o : Nat) (w : World) (h : RM w mm k c A r x ps g) (ha : 0 ≤ a ∧ a ≤ 18446744073709551615) (hn : (n : Int) = 1 ∨ (n : Int) = 2 ∨ (n : Int) = 4 ∨ (n : Int) = 8) (hp : place r k a n = some o) (hg : ∀ j, 0 ≤ g j ∧ g j ≤ 255) :
    Calls Try.prog 15 #[.pointer (some ⟨mm, 0, none⟩), .int .u64 a, .int .i64 (n : Int)] w (GmWord.Gives w.heap.size w (.tuple #[.int .u64 (wordI (fun j => g (o + j)) n), .int .i64 0])) := by
  unfold GmWord.Gives
  have HF := Lib.hid (h.find ha (n := n) (by omega))
  have HY := Lib.hid (show ∀ i, i < k → inR r a n i → o = (r.st i + (a - r.at_ i)).toNat from fun i hi hin => by have := place_at h.rin hi hin; rw [hp] at this; injection this)
  have HX := Lib.hid (show ∃ i, i < k ∧ inR r a n i from (place_inR h.rin).1 (by rw [hp]; rfl))
  have H := Lib.hid h
  have HG := Lib.hid hg
  have f2 : IntKind.u64.wrap (n : Int) = n := by rw [IntKind.wrap_u64]; omega
  have i0 : IntKind.i64.wrap ((n : Int) - 1) = (n : Int) - 1 := by rw [IntKind.wrap_i64]; omega
  have hn8 : 1 ≤ n ∧ n ≤ 8 := by omega
  have Q := one_of hn
  clear h hp hg hn
  rcases Q with q1 | ⟨q1, q2⟩ | ⟨q1, q2, q3⟩ | ⟨q1, q2, q3, q4⟩
  all_goals
    go_enter Try.func15, Try.ntmps15
    go_wp2_with fail
    refine HF.out.mono ?_
    rintro e W ⟨hb, ⟨i, hi, hin, _, rfl⟩ | ⟨hno, rfl⟩⟩
    · obtain ⟨G, b, c3, rfl, hc, hrow⟩ := H.out.part hi
      have s0 := H.out.st0 i hi
      have l1 := H.out.len1 i hi
      obtain ⟨r1, r2, r3, r4⟩ := H.out.raw i hi
      have eo := HY.out i hi hin
      obtain ⟨d1, d2, d3, d4⟩ := hin
      obtain ⟨P, hP⟩ : ∃ P : Nat, a - r.at_ i = P := ⟨(a - r.at_ i).toNat, by omega⟩
      obtain ⟨L, hL⟩ : ∃ L : Nat, (r.len i).toNat = L := ⟨_, rfl⟩
      have hPL : P + n ≤ L := by omega
      have hLL : L ≤ 1048576 := by omega
      have hk1 := H.out.k1
      rw [hL] at hc hrow
      rw [hP]
      have eo2 : o = (r.st i).toNat + P := by omega
      have hGl : G < w.heap.size := by
        obtain ⟨B, hown⟩ := H.out.own
        exact (hown.lt G rfl).2
      have m1 : W.cell? ⟨mm, 1, none⟩ = some (.slice (some ⟨G, 0, none⟩) k c3) := (hb.cell (p := ⟨mm, 1, none⟩) H.out.two.lt).trans (H.out.two.cell (i := 1) (by decide))
      have mc : W.cell? ⟨G, i, none⟩ = some (.slice (some ⟨b, 0, none⟩) L L) := (hb.cell (p := ⟨G, i, none⟩) hGl).trans hc
      have HR := Lib.hid (hrow.of_block (hb.block b hrow.lt))
      have HB := Lib.hid hb
      have f3 : decide ((i : Int) < (0 : Int)) = false := decide_eq_false (by omega)
      have x2 : (i : Int) < (k : Int) := by omega
      clear hb hc hrow eo d1 d2 d3 d4 r1 r2 r3 r4 l1 q1 hP
      go_wp2_with fail
      go_loopw [10, 11] (fun v j wr => ∃ q : Nat, q ≤ n ∧ wr = W ∧ j = .int .i64 ((q : Int) - 1) ∧ v = .int .u64 (wordI (fun j => g (o + (q + j))) (n - q))) (fun v j wr => (1 + intOf j).toNat)
      case atStart => exact ⟨n, by omega, rfl, rfl, by rw [Nat.sub_self]; rfl⟩
      case round =>
        obtain ⟨q, hq, rfl, rfl, rfl⟩ := hrel
        by_cases hq0 : q = 0
        · subst hq0
          have hd : decide (0 ≤ ((0 : Nat) : Int) - 1) = false := by decide
          have hw : wordI (fun j => g (o + (0 + j))) (n - 0) = wordI (fun j => g (o + j)) n := word_congr fun j _ => by rw [Nat.zero_add]
          rw [hw]
          clear hw
          go_wp2_with fail
          go_returns
          exact ⟨rfl, HB.out⟩
        · obtain ⟨q, rfl⟩ : ∃ q', q = q' + 1 := ⟨q - 1, by omega⟩
          have hd : decide (0 ≤ ((q + 1 : Nat) : Int) - 1) = true := decide_eq_true (by omega)
          have j1 : IntKind.i64.wrap ((P : Int) + (((q + 1 : Nat) : Int) - 1)) = ((P + q : Nat) : Int) := by rw [IntKind.wrap_i64]; omega
          have j2 : (((P + q : Nat) : Int)).toNat = P + q := Int.toNat_natCast _
          have c0 : wr.cell? ⟨b, P + q, none⟩ = some (.int .u8 (g (o + q))) := (HR.out.cell (i := P + q) (by omega)).trans (by rw [eo2, Nat.add_assoc])
          have hb := HG.out (o + q)
          have hW := word_lo (g := fun j => g (o + (q + 1 + j))) (n := n - (q + 1)) (fun i hi => HG.out _)
          have hp : (2 : Int) ^ (8 * (n - (q + 1))) ≤ 2 ^ (8 * 7) := pow_le8 (by omega)
          have hp7 : (2 : Int) ^ (8 * 7) = 72057594037927936 := by decide
          have hs : wordI (fun j => g (o + (q + j))) (n - q) = g (o + q) + 256 * wordI (fun j => g (o + (q + 1 + j))) (n - (q + 1)) := by
            rw [show n - q = (n - (q + 1)) + 1 from by omega, word_cons]
            congr 2
            exact word_congr fun j _ => by congr 1; omega
          obtain ⟨Y, hY⟩ : ∃ Y, g (o + q) = Y := ⟨_, rfl⟩
          obtain ⟨Z, hZ⟩ : ∃ Z, wordI (fun j => g (o + (q + 1 + j))) (n - (q + 1)) = Z := ⟨_, rfl⟩
          rw [hY, hZ] at hs
          rw [hY] at c0 hb
          rw [hZ] at hW
          rw [hZ]
          have j3 : IntKind.u64.wrap (256 * Z) = 256 * Z := by rw [IntKind.wrap_u64]; omega
          have j4 : IntKind.u64.wrap (256 * Z + Y) = 256 * Z + Y := by rw [IntKind.wrap_u64]; omega
          have j5 : IntKind.u64.wrap Y = Y := by rw [IntKind.wrap_u64]; omega
          have HS := Lib.hid hs
          have hin : (P + q : Nat) < L := by omega
          clear hs hY hZ hp hp7
          go_wp2_with fail
          go_roundw
          case rel => exact ⟨q, by omega, trivial, by go_num, by rw [HS.out, Int.add_comm]⟩
          case measure => simp [intOf]; omega
    · obtain ⟨i, hi, hin⟩ := HX.out
      exact absurd hin (hno i hi)
end Go.Proofs.Ytmmgcmbniidieaa.GmRefP
