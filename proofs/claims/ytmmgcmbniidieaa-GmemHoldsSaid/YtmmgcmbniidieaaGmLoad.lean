
/- Memory in regions: Load, Store. -/
import Derived.Test.YtmmgcmbniidieaaGmWord
import Derived.Test.YtmmgcmbniidieaaLe
namespace Go.Proofs.Ytmmgcmbniidieaa.GmLoad
open Go.RowKit Rw GmFind GmWord Le
set_option linter.unusedVariables false
set_option linter.unusedSimpArgs false

/-- A place lies in the bytes. -/
theorem place_fits {r : Rg} {k n3 : Nat} {at_ n : Int} {o : Nat} (hf : r.Fits k n3) (h : place r k at_ n = some o) : (o : Int) + n ≤ n3 ∧ 1 ≤ n := by
  unfold place at h
  by_cases ho : okB r k (idx r at_ k) at_ n = true
  · rw [if_pos ho] at h
    injection h with h
    unfold okB Rg.end_ at ho
    simp only [Bool.and_eq_true, decide_eq_true_eq] at ho
    obtain ⟨⟨⟨h1, h2⟩, h3⟩, h4⟩ := ho
    obtain ⟨h5, h6⟩ := hf _ h1
    omega
  · rw [if_neg ho] at h
    exact absurd h (by simp)

/-- The bytes of a memory. -/
def By (w : World) (b3 n3 : Nat) (g : Nat → Int) : Prop := ∀ j, j < n3 → w.cell? ⟨b3, j, none⟩ = some (.int .u8 (g j))
/-- What Load answers. -/
def loadV (g : Nat → Int) (nb : Int) : Option Nat → Value
  | some o => .tuple #[.int .u64 (wordI (fun j => g (o + j)) nb.toNat), .int .i64 0]
  | none => .tuple #[.int .u64 0, .int .i64 5]

set_option maxRecDepth 100000 in
set_option maxHeartbeats 2000000 in
theorem load_no (m : Nat) (at_ nb : Int) (w : World) (h : w.cell? ⟨m, 0, none⟩ = some (.pointer (some ⟨m, 0, none⟩))) (hn : ¬(nb = 1 ∨ nb = 2 ∨ nb = 4 ∨ nb = 8)) :
    Calls Try.prog 14 #[.pointer (some ⟨m, 0, none⟩), .int .u64 at_, .int .i64 nb] w (Gives w.heap.size w (.tuple #[.int .u64 0, .int .i64 2])) := by
  go_enter Try.func14, Try.ntmps14
  go_wp2_with fail
  refine (word_no m at_ nb _ h hn).mono ?_
  rintro e W ⟨rfl, hb1⟩
  go_wp2_with fail
  go_returns
  exact ⟨rfl, by go_grown⟩

set_option maxRecDepth 100000 in
set_option maxHeartbeats 4000000 in
theorem load_yes (k m g1 b3 : Nat) (at_ nb : Int) {A2 : Option Addr} {c1 c2 n3 c3 : Nat} (r : Rg) (g : Nat → Int) (w : World) (hk : k ≤ 1000000) (hr : r.In k) (hf : r.Fits k n3) (hn3 : n3 ≤ c3) (hn3' : n3 ≤ 1000000000) (h : MemAt w m k g1 A2 (some ⟨b3, 0, none⟩) c1 c2 n3 c3 r)
    (hby : By w b3 n3 g) (hg : Bytes g n3) (hb3 : b3 < w.heap.size)
    (ha0 : 0 ≤ at_) (ha1 : at_ ≤ 18446744073709551615) (hn : nb = 1 ∨ nb = 2 ∨ nb = 4 ∨ nb = 8) :
    Calls Try.prog 14 #[.pointer (some ⟨m, 0, none⟩), .int .u64 at_, .int .i64 nb] w (Gives w.heap.size w (loadV g nb (place r k at_ nb))) := by
  have hself := h.self
  have HF := Lib.hid (word_yes k m g1 b3 at_ nb r w hk hr hf hn3 hn3' h ha0 ha1 hn)
  obtain ⟨N, rfl⟩ : ∃ N : Nat, nb = (N : Int) := ⟨nb.toNat, by omega⟩
  have hN : N ≤ 8 := by omega
  clear hn h hr
  cases ho : place r k at_ N with
  | none =>
    rw [ho] at HF
    clear hf
    go_enter Try.func14, Try.ntmps14
    go_wp2_with fail
    refine HF.out.mono ?_
    rintro e W1 ⟨he, hb1⟩
    obtain rfl : e = .returned (.tuple #[.slice none 0 0, .int .i64 5]) := he
    go_wp2_with fail
    go_returns
    exact ⟨rfl, by go_grown⟩
  | some o =>
    rw [ho] at HF
    obtain ⟨hfit, _⟩ := place_fits hf ho
    clear hf ho
    go_enter Try.func14, Try.ntmps14
    go_wp2_with fail
    refine HF.out.mono ?_
    rintro e W1 ⟨he, hb1⟩
    obtain rfl : e = .returned (.tuple #[.slice (some ⟨b3, o, none⟩) N (c3 - o), .int .i64 0]) := he
    clear HF
    have HC := Lib.hid (show By W1 b3 n3 g from fun j hj => (hb1.cell (p := ⟨b3, j, none⟩) hb3).trans (hby j hj))
    clear hby
    go_wp2_with fail
    go_loop [10, 11, 23] (fun v x i => ∃ k : Nat, k ≤ N ∧ i = .int .i64 k ∧ v = .int .u64 (wordI (fun j => g (o + j)) k)) (fun v x i => N - (intOf i).toNat)
    case atStart => exact ⟨0, by omega, rfl, rfl⟩
    case round =>
      obtain ⟨k, hk, rfl, rfl⟩ := hrel
      by_cases hlt : k < N
      · have hc : W1.cell? ⟨b3, o + k, none⟩ = .some (.int .u8 (g (o + k))) := HC.out _ (by omega)
        have hb := hg (o + k) (by omega)
        go_wp2
        go_round
        case rel => exact ⟨k + 1, by omega, by go_num, by rw [word_step (fun j => g (o + j)) k (fun i hi => hg _ (by omega)) (by omega)]⟩
        case measure => simp [intOf]; omega
      · obtain rfl : k = N := by omega
        go_wp2
        go_returns
        exact ⟨rfl, by go_grown⟩

/-- The bytes with a word stored. -/
def stG (g : Nat → Int) (n : Nat) (v : Int) : Option Nat → Nat → Int
  | some o => fun j => if o ≤ j ∧ j < o + n then byteI v (j - o) else g j
  | none => g
/-- What Store answers. -/
def errV : Option Nat → Value
  | some _ => .int .i64 0
  | none => .int .i64 5
def stF (F : Nat → Value) (o n : Nat) (v : Int) : Nat → Value := fun j => if o ≤ j ∧ j < o + n then .int .u8 (byteI v (j - o)) else F j

set_option maxRecDepth 100000 in
set_option maxHeartbeats 2000000 in
theorem store_no (m : Nat) (at_ nb v : Int) (w : World) (h : w.cell? ⟨m, 0, none⟩ = some (.pointer (some ⟨m, 0, none⟩))) (hn : ¬(nb = 1 ∨ nb = 2 ∨ nb = 4 ∨ nb = 8)) :
    Calls Try.prog 16 #[.pointer (some ⟨m, 0, none⟩), .int .u64 at_, .int .i64 nb, .int .u64 v] w (Gives w.heap.size w (.int .i64 2)) := by
  go_enter Try.func16, Try.ntmps16
  go_wp2_with fail
  refine (word_no m at_ nb _ h hn).mono ?_
  rintro e W ⟨rfl, hb1⟩
  go_wp2_with fail
  go_ret
  exact ⟨rfl, by go_grown⟩

/-- Nothing is stored where no region holds all the bytes. -/
theorem store_out (k m g1 b3 : Nat) (at_ nb v : Int) {A2 : Option Addr} {c1 c2 n3 c3 : Nat} (r : Rg) (w : World) (hk : k ≤ 1000000) (hr : r.In k) (hf : r.Fits k n3) (hn3 : n3 ≤ c3) (hn3' : n3 ≤ 1000000000) (h : MemAt w m k g1 A2 (some ⟨b3, 0, none⟩) c1 c2 n3 c3 r)
    (ha0 : 0 ≤ at_) (ha1 : at_ ≤ 18446744073709551615) (hn : nb = 1 ∨ nb = 2 ∨ nb = 4 ∨ nb = 8) (ho : place r k at_ nb = none) :
    Calls Try.prog 16 #[.pointer (some ⟨m, 0, none⟩), .int .u64 at_, .int .i64 nb, .int .u64 v] w (Gives w.heap.size w (.int .i64 5)) := by
  have hself := h.self
  have HF := Lib.hid (word_yes k m g1 b3 at_ nb r w hk hr hf hn3 hn3' h ha0 ha1 hn)
  rw [ho] at HF
  clear hf hn h hr
  go_enter Try.func16, Try.ntmps16
  go_wp2_with fail
  refine HF.out.mono ?_
  rintro e W1 ⟨he, hb1⟩
  obtain rfl : e = .returned (.tuple #[.slice none 0 0, .int .i64 5]) := he
  go_wp2_with fail
  go_ret
  exact ⟨rfl, by go_grown⟩

set_option maxRecDepth 100000 in
set_option maxHeartbeats 4000000 in
theorem store_yes (k m g1 b3 : Nat) (at_ nb v : Int) {A2 : Option Addr} {c1 c2 n3 c3 M o : Nat} (t : TypeId) (r : Rg) (F : Nat → Value) (w : World) (hk : k ≤ 1000000) (hr : r.In k) (hf : r.Fits k n3) (hn3 : n3 ≤ c3) (hn3' : n3 ≤ 1000000000) (h : MemAt w m k g1 A2 (some ⟨b3, 0, none⟩) c1 c2 n3 c3 r)
    (hM : n3 ≤ M) (hrow : w.rowIs b3 t M F) (hv0 : 0 ≤ v) (hv1 : v ≤ 18446744073709551615)
    (ha0 : 0 ≤ at_) (ha1 : at_ ≤ 18446744073709551615) (hn : nb = 1 ∨ nb = 2 ∨ nb = 4 ∨ nb = 8) (ho : place r k at_ nb = some o) :
    Calls Try.prog 16 #[.pointer (some ⟨m, 0, none⟩), .int .u64 at_, .int .i64 nb, .int .u64 v] w fun e w' => e = .returned (.int .i64 0) ∧ w'.rowIs b3 t M (stF F o nb.toNat v) ∧ w.grownBy w' (some b3) := by
  have hself := h.self
  have HF := Lib.hid (word_yes k m g1 b3 at_ nb r w hk hr hf hn3 hn3' h ha0 ha1 hn)
  obtain ⟨N, rfl⟩ : ∃ N : Nat, nb = (N : Int) := ⟨nb.toNat, by omega⟩
  have hN : N ≤ 8 := by omega
  clear hn h hr
  rw [ho] at HF
  obtain ⟨hfit, _⟩ := place_fits hf ho
  clear hf ho
  go_enter Try.func16, Try.ntmps16
  go_wp2_with fail
  refine HF.out.mono ?_
  rintro e W1 ⟨he, hb1⟩
  obtain rfl : e = .returned (.tuple #[.slice (some ⟨b3, o, none⟩) N (c3 - o), .int .i64 0]) := he
  clear HF
  have hrow1 := hrow.of_block (hb1.block b3 hrow.lt)
  have hg1 := only_of_below hb1 (some b3)
  clear hrow hb1
  go_wp2_with fail
  go_loopw [11, 23] (fun x i wr => ∃ q : Nat, q ≤ N ∧ i = .int .i64 q ∧ wr.rowIs b3 t M (stF F o q v) ∧ w.grownBy wr (some b3)) (fun x i wr => N - (intOf i).toNat)
  case atStart => exact ⟨0, by omega, rfl, hrow1.congr (fun j hj => by unfold stF; rw [if_neg (by omega)]), hg1⟩
  case round =>
    obtain ⟨q, hq, rfl, hw, hg⟩ := hrel
    clear hrow1 hg1
    by_cases hlt : q < N
    · have hc : wr.cell? ⟨b3, o + q, none⟩ = .some (stF F o q v (o + q)) := hw.cell (by omega)
      have hz : wr.frozen? ⟨b3, o + q, none⟩ = false := hw.frozen _
      go_wp2
      go_roundw
      case rel => exact ⟨q + 1, by omega, by go_num, (hw.set (o + q) (.int .u8 (byteI v q))).congr (fun j hj => by
        unfold stF
        by_cases e : j = o + q
        · rw [if_pos e, if_pos (by omega), e, Nat.add_sub_cancel_left]
        · rw [if_neg e]
          by_cases e2 : o ≤ j ∧ j < o + q
          · rw [if_pos e2, if_pos (by omega)]
          · rw [if_neg e2, if_neg (by omega)]), only_setCell hg (.inl rfl) _⟩
      case measure => simp [intOf]; omega
    · obtain rfl : q = N := by omega
      go_wp2
      go_ret
      exact ⟨rfl, hw, hg⟩

end Go.Proofs.Ytmmgcmbniidieaa.GmLoad
