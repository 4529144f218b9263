
/- The document's own memory: Store. -/
import Derived.Test.YtmmgcmbniidieaaGmRefW
import Derived.Test.YtmmgcmbniidieaaGmRefL
namespace Go.Proofs.Ytmmgcmbniidieaa.GmRefP
open Go.RowKit Rw Le GmFind GmWord GmCheck GmNew GmCopyR GmRef GmRefN GmRefM GmLoad
set_option linter.unusedVariables false
set_option linter.unusedSimpArgs false

set_option maxRecDepth 100000 in
theorem r_store_no (y : Value) (a nb v : Int) (w : World) (hn : ¬(nb = 1 ∨ nb = 2 ∨ nb = 4 ∨ nb = 8)) : Calls Try.prog 17 #[y, .int .u64 a, .int .i64 nb, .int .u64 v] w (GmWord.Gives w.heap.size w (.int .i64 2)) := by
  unfold GmWord.Gives
  have h1 : (nb != 1) = true := by simp; omega
  have h2 : (nb != 2) = true := by simp; omega
  have h3 : (nb != 4) = true := by simp; omega
  have h4 : (nb != 8) = true := by simp; omega
  clear hn
  go_enter Try.func17, Try.ntmps17
  go_wp2_with fail
  go_ret
  exact ⟨rfl, by go_grown⟩

set_option maxRecDepth 100000 in
set_option maxHeartbeats 4000000 in
theorem r_store_out {mm k c : Nat} {A : Option Addr} {r : Rg} {x : Value} {ps : List (Nat × Nat)} {g : Nat → Int} (a n v : Int) (w : World) (h : RM w mm k c A r x ps g) (ha : 0 ≤ a ∧ a ≤ 18446744073709551615) (hn : n = 1 ∨ n = 2 ∨ n = 4 ∨ n = 8) (hp : place r k a n = none) :
    Calls Try.prog 17 #[.pointer (some ⟨mm, 0, none⟩), .int .u64 a, .int .i64 n, .int .u64 v] w (GmWord.Gives w.heap.size w (.int .i64 5)) := by
  unfold GmWord.Gives
  have HF := Lib.hid (h.find ha (n := n) (by omega))
  have HP := Lib.hid (show ∀ i, i < k → ¬ inR r a n i from fun i hi hin => by have := place_at h.rin hi hin; rw [hp] at this; cases this)
  have f2 : IntKind.u64.wrap n = n := by rw [IntKind.wrap_u64]; omega
  have Q := one_of hn
  clear h hp hn
  rcases Q with q1 | ⟨q1, q2⟩ | ⟨q1, q2, q3⟩ | ⟨q1, q2, q3, q4⟩
  all_goals
    go_enter Try.func17, Try.ntmps17
    go_wp2_with fail
    refine HF.out.mono ?_
    rintro e W ⟨hb, ⟨i, hi, hin, _, rfl⟩ | ⟨hno, rfl⟩⟩
    · exact (HP.out i hi hin).elim
    · go_wp2_with fail
      go_ret
      exact ⟨rfl, by go_grown⟩

set_option maxRecDepth 100000 in
set_option maxHeartbeats 8000000 in
theorem r_store_ok {mm k c : Nat} {A : Option Addr} {r : Rg} {x : Value} {ps : List (Nat × Nat)} {g : Nat → Int} (a v : Int) (n o : Nat) (w : World) (h : RM w mm k c A r x ps g) (ha : 0 ≤ a ∧ a ≤ 18446744073709551615) (hv : 0 ≤ v ∧ v ≤ 18446744073709551615) (hn : (n : Int) = 1 ∨ (n : Int) = 2 ∨ (n : Int) = 4 ∨ (n : Int) = 8) (hp : place r k a n = some o) :
    Calls Try.prog 17 #[.pointer (some ⟨mm, 0, none⟩), .int .u64 a, .int .i64 (n : Int), .int .u64 v] w fun e w' => e = .returned (.int .i64 0) ∧ RM w' mm k c A r x ps (putG g o n (byteI v)) ∧ ∃ p ∈ ps, w.grownBy w' (some p.1) := by
  have HF := Lib.hid (h.find ha (n := n) (by omega))
  have HY := Lib.hid (show ∀ i, i < k → inR r a n i → o = (r.st i + (a - r.at_ i)).toNat from fun i hi hin => by have := place_at h.rin hi hin; rw [hp] at this; injection this)
  have HX := Lib.hid (show ∃ i, i < k ∧ inR r a n i from (place_inR h.rin).1 (by rw [hp]; rfl))
  have H := Lib.hid h
  have f2 : IntKind.u64.wrap (n : Int) = n := by rw [IntKind.wrap_u64]; omega
  have hn8 : 1 ≤ n ∧ n ≤ 8 := by omega
  have hv0 := hv.1
  have hv1 := hv.2
  have Q := one_of hn
  clear h hp hn hv
  rcases Q with q1 | ⟨q1, q2⟩ | ⟨q1, q2, q3⟩ | ⟨q1, q2, q3, q4⟩
  all_goals
    go_enter Try.func17, Try.ntmps17
    go_wp2_with fail
    refine HF.out.mono ?_
    rintro e W ⟨hb, ⟨i, hi, hin, _, rfl⟩ | ⟨hno, rfl⟩⟩
    · obtain ⟨G, b, c3, hxe, hGl, hps, hc⟩ := H.out.part2 hi
      have hrow := H.out.row i _ hps
      have s0 := H.out.st0 i hi
      have l1 := H.out.len1 i hi
      obtain ⟨r1, r2, r3, r4⟩ := H.out.raw i hi
      have eo := HY.out i hi hin
      obtain ⟨d1, d2, d3, d4⟩ := hin
      obtain ⟨P, hP⟩ : ∃ P : Nat, a - r.at_ i = P := ⟨(a - r.at_ i).toNat, by omega⟩
      obtain ⟨L, hL⟩ : ∃ L : Nat, (r.len i).toNat = L := ⟨_, rfl⟩
      have hPL : P + n ≤ L := by omega
      have hLL : L ≤ 1048576 := by omega
      have hk1 := H.out.k1
      rw [hL] at hc hps hrow
      rw [hP]
      have EO := Lib.hid (show o = (r.st i).toNat + P by omega)
      have hmb : mm ≠ b := fun e => by
        have h2 := H.out.two
        rw [e] at h2
        exact absurd (row_ty h2 hrow) (by decide)
      have hGb : G ≠ b := fun e => by
        obtain ⟨B, hown⟩ := H.out.own
        refine own_ty hown hrow ?_
        rw [hxe, e]
        rfl
      have hml := H.out.two.lt
      have M1 := Lib.hid (show ∀ wr, w.grownBy wr (some b) → wr.cell? ⟨mm, 1, none⟩ = some (.slice (some ⟨G, 0, none⟩) k c3) from fun wr hg => (World.cell?_of_block (hg.block mm hml (fun e => hmb (by injection e)))).trans (by rw [← hxe]; exact H.out.two.cell (i := 1) (by decide)))
      have M2 := Lib.hid (show ∀ wr, w.grownBy wr (some b) → wr.cell? ⟨G, i, none⟩ = some (.slice (some ⟨b, 0, none⟩) L L) from fun wr hg => (World.cell?_of_block (hg.block G hGl (fun e => hGb (by injection e)))).trans hc)
      have HR := Lib.hid (hrow.of_block (hb.block b hrow.lt))
      have HB := Lib.hid (only_of_below hb (some b))
      have HPS := Lib.hid hps
      have f3 : decide ((i : Int) < (0 : Int)) = false := decide_eq_false (by omega)
      have x2 : (i : Int) < (k : Int) := by omega
      clear hb hc hrow eo d1 d2 d3 d4 r1 r2 r3 r4 l1 q1 hP hmb hGb hml hxe hps hGl s0 hL
      go_wp2_with fail
      go_loopw [11] (fun j wr => ∃ q : Nat, q ≤ n ∧ j = .int .i64 q ∧ wr.rowIs b 5 L (fun j => if P ≤ j ∧ j < P + q then .int .u8 (byteI v (j - P)) else .int .u8 (g ((r.st i).toNat + j))) ∧ w.grownBy wr (some b)) (fun j wr => n - (intOf j).toNat)
      case atStart => exact ⟨0, by omega, rfl, HR.out.congr (fun j hj => by rw [if_neg (by omega)]), HB.out⟩
      case round =>
        obtain ⟨q, hq, rfl, hw, hg⟩ := hrel
        by_cases hlt : q < n
        · have m1 := M1.out wr hg
          have m2 := M2.out wr hg
          have hin : P + q < L := by omega
          have hc : wr.cell? ⟨b, P + q, none⟩ = .some (if P ≤ P + q ∧ P + q < P + q then .int .u8 (byteI v (P + q - P)) else .int .u8 (g ((r.st i).toNat + (P + q)))) := hw.cell (by omega)
          rw [if_neg (by omega)] at hc
          have hz : wr.frozen? ⟨b, P + q, none⟩ = false := hw.frozen _
          have j1 : IntKind.i64.wrap ((P : Int) + (q : Int)) = ((P + q : Nat) : Int) := by rw [IntKind.wrap_i64]; omega
          have j2 : (((P + q : Nat) : Int)).toNat = P + q := Int.toNat_natCast _
          have HW := Lib.hid hw
          have HGr := Lib.hid hg
          clear hw hg
          go_wp2_with fail
          go_roundw
          case rel => exact ⟨q + 1, by omega, by go_num, (HW.out.set (P + q) (.int .u8 (byteI v q))).congr (fun j hj => by
            by_cases e : j = P + q
            · rw [if_pos e, if_pos (by omega), e, Nat.add_sub_cancel_left]
            · rw [if_neg e]
              by_cases e2 : P ≤ j ∧ j < P + q
              · rw [if_pos e2, if_pos (by omega)]
              · rw [if_neg e2, if_neg (by omega)]), only_setCell HGr.out (.inl rfl) _⟩
          case measure => simp [intOf]; omega
        · obtain rfl : q = n := by omega
          have HW := Lib.hid hw
          have HGr := Lib.hid hg
          clear hw hg
          go_wp2_with fail
          go_ret
          refine ⟨rfl, ?_, (b, L), List.mem_of_getElem? HPS.out, HGr.out⟩
          rw [EO.out]
          exact H.out.wrote HPS.out hPL (byteI v) HGr.out HW.out
    · obtain ⟨i, hi, hin⟩ := HX.out
      exact absurd hin (hno i hi)
end Go.Proofs.Ytmmgcmbniidieaa.GmRefP
