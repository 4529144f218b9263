
/- Memory in regions: find's answer as a function; word; Has. -/
import Derived.Test.YtmmgcmbniidieaaGmFind
import Derived.WalkSpells
import Derived.Lib.SliceRun
namespace Go.Proofs.Ytmmgcmbniidieaa.GmWord
open Go.RowKit Rw GmFind
set_option linter.unusedVariables false
set_option linter.unusedSimpArgs false

def Gives (B : Nat) (w : World) (v : Value) (e : Ending) (w' : World) : Prop := e = .returned v ∧ Below B w w'

/-- The first region that does not end before the address. -/
def idx (r : Rg) (at_ : Int) : Nat → Nat
  | 0 => 0
  | k + 1 => if idx r at_ k < k then idx r at_ k else if at_ ≤ r.end_ k then k else k + 1
theorem idx_eq (r : Rg) (at_ : Int) : ∀ (k i : Nat), i ≤ k → (∀ j, j < i → r.end_ j < at_) → (i < k → at_ ≤ r.end_ i) → idx r at_ k = i
  | 0, i, h1, _, _ => by unfold idx; omega
  | k + 1, i, h1, h2, h3 => by
    unfold idx
    by_cases hik : i ≤ k
    · rw [idx_eq r at_ k i hik h2 (fun h => h3 (by omega))]
      by_cases hl : i < k
      · rw [if_pos hl]
      · obtain rfl : i = k := by omega
        rw [if_neg hl, if_pos (h3 (by omega))]
    · obtain rfl : i = k + 1 := by omega
      rw [idx_eq r at_ k k (by omega) (fun j hj => h2 j (by omega)) (fun h => by omega), if_neg (by omega), if_neg (by have := h2 k (by omega); omega)]
/-- Where n bytes at an address begin, if they are all in one region. -/
def place (r : Rg) (k : Nat) (at_ n : Int) : Option Nat :=
  if okB r k (idx r at_ k) at_ n = true then some (r.st (idx r at_ k) + (at_ - r.at_ (idx r at_ k))).toNat else none
/-- A part of the bytes. -/
def partV (b3 c3 : Nat) (n : Int) : Option Nat → Value
  | some o => .slice (some ⟨b3, o, none⟩) n.toNat (c3 - o)
  | none => .slice none 0 0

theorem find_of (k m g1 b3 : Nat) (at_ n : Int) {A2 : Option Addr} {c1 c2 n3 c3 : Nat} (r : Rg) (w : World) (hk : k ≤ 1000000) (hr : r.In k) (hf : r.Fits k n3) (hn3 : n3 ≤ c3) (hn3' : n3 ≤ 1000000000) (h : MemAt w m k g1 A2 (some ⟨b3, 0, none⟩) c1 c2 n3 c3 r)
    (ha0 : 0 ≤ at_) (ha1 : at_ ≤ 18446744073709551615) (h0 : 0 ≤ n) (h1 : n ≤ 18446744073709551615) :
    Calls Try.prog 56 #[.pointer (some ⟨m, 0, none⟩), .int .u64 at_, .int .u64 n] w (Gives w.heap.size w (partV b3 c3 n (place r k at_ n))) := by
  refine (find_any k m g1 b3 at_ n r w hk hr hf hn3 hn3' h ha0 ha1 h0 h1).mono ?_
  rintro e W ⟨i, hi, hlo, hhi, hb, rfl⟩
  refine ⟨?_, hb⟩
  unfold place
  rw [idx_eq r at_ k i hi hlo hhi]
  by_cases ho : okB r k i at_ n = true
  · rw [if_pos ho, if_pos ho]; rfl
  · rw [if_neg ho, if_neg ho]; rfl

/-- What word answers. -/
def wordV (b3 c3 : Nat) (n : Int) : Option Nat → Value
  | some o => .tuple #[.slice (some ⟨b3, o, none⟩) n.toNat (c3 - o), .int .i64 0]
  | none => .tuple #[.slice none 0 0, .int .i64 5]

set_option maxRecDepth 100000 in
set_option maxHeartbeats 2000000 in
theorem word_no (m : Nat) (at_ nb : Int) (w : World) (h : w.cell? ⟨m, 0, none⟩ = some (.pointer (some ⟨m, 0, none⟩))) (hn : ¬(nb = 1 ∨ nb = 2 ∨ nb = 4 ∨ nb = 8)) :
    Calls Try.prog 53 #[.pointer (some ⟨m, 0, none⟩), .int .u64 at_, .int .i64 nb] w (Gives w.heap.size w (.tuple #[.slice none 0 0, .int .i64 2])) := by
  have e1 : ((nb : Int) == 1) = false := by simp; omega
  have e2 : ((nb : Int) == 2) = false := by simp; omega
  have e4 : ((nb : Int) == 4) = false := by simp; omega
  have e8 : ((nb : Int) == 8) = false := by simp; omega
  go_enter Try.func53, Try.ntmps53
  go_wp2_with fail
  refine (valid_any m _ h).mono ?_
  rintro e W ⟨rfl, rfl⟩
  go_wp2_with fail
  go_returns
  exact ⟨rfl, by go_grown⟩

set_option maxRecDepth 100000 in
set_option maxHeartbeats 4000000 in
theorem word_yes (k m g1 b3 : Nat) (at_ nb : Int) {A2 : Option Addr} {c1 c2 n3 c3 : Nat} (r : Rg) (w : World) (hk : k ≤ 1000000) (hr : r.In k) (hf : r.Fits k n3) (hn3 : n3 ≤ c3) (hn3' : n3 ≤ 1000000000) (h : MemAt w m k g1 A2 (some ⟨b3, 0, none⟩) c1 c2 n3 c3 r)
    (ha0 : 0 ≤ at_) (ha1 : at_ ≤ 18446744073709551615) (hn : nb = 1 ∨ nb = 2 ∨ nb = 4 ∨ nb = 8) :
    Calls Try.prog 53 #[.pointer (some ⟨m, 0, none⟩), .int .u64 at_, .int .i64 nb] w (Gives w.heap.size w (wordV b3 c3 nb (place r k at_ nb))) := by
  have hself := h.self
  have H := Lib.hid h
  have HF := Lib.hid (find_of k m g1 b3 at_ nb r w hk hr hf hn3 hn3' h ha0 ha1 (by omega) (by omega))
  clear h hr hf
  generalize place r k at_ nb = o at HF ⊢
  rcases hn with rfl | rfl | rfl | rfl
  all_goals
    go_enter Try.func53, Try.ntmps53
    have hq1 := fun W a n c => Lib.run_eql_slice_nil (P := Try.prog) W 37 5 a n c 0 0 Try.underlying37
    go_wp2_with fail
    refine (valid_any m _ hself).mono ?_
    rintro e W ⟨rfl, rfl⟩
    go_wp2_with fail
    refine HF.out.mono ?_
    rintro e W1 ⟨he, hb1⟩
    clear HF H
    cases o with
    | none =>
      obtain rfl : e = .returned (.slice none 0 0) := he
      go_wp2_with fail
      go_returns
      exact ⟨rfl, by go_grown⟩
    | some o =>
      obtain rfl : e = .returned (.slice (some ⟨b3, o, none⟩) _ (c3 - o)) := he
      go_wp2_with fail
      go_returns
      exact ⟨rfl, by go_grown⟩

set_option maxRecDepth 100000 in
set_option maxHeartbeats 4000000 in
theorem has_any (k m g1 b3 : Nat) (at_ nb : Int) {A2 : Option Addr} {c1 c2 n3 c3 : Nat} (r : Rg) (w : World) (hk : k ≤ 1000000) (hr : r.In k) (hf : r.Fits k n3) (hn3 : n3 ≤ c3) (hn3' : n3 ≤ 1000000000) (h : MemAt w m k g1 A2 (some ⟨b3, 0, none⟩) c1 c2 n3 c3 r)
    (ha0 : 0 ≤ at_) (ha1 : at_ ≤ 18446744073709551615) (hn0 : 0 ≤ nb) (hn1 : nb ≤ 18446744073709551615) :
    Calls Try.prog 23 #[.pointer (some ⟨m, 0, none⟩), .int .u64 at_, .int .u64 nb] w (Gives w.heap.size w (.bool (place r k at_ nb).isSome)) := by
  have hself := h.self
  have HF := Lib.hid (find_of k m g1 b3 at_ nb r w hk hr hf hn3 hn3' h ha0 ha1 (by omega) (by omega))
  clear h hr hf
  generalize place r k at_ nb = o at HF ⊢
  go_enter Try.func23, Try.ntmps23
  have hq1 := fun W a n c => run_neq_slice_nil_any (P := Try.prog) W 37 5 a n c 0 0 Try.underlying37
  go_wp2_with fail
  refine (valid_any m _ hself).mono ?_
  rintro e W ⟨rfl, rfl⟩
  go_wp2_with fail
  refine HF.out.mono ?_
  rintro e W1 ⟨he, hb1⟩
  clear HF
  cases o with
  | none =>
    obtain rfl : e = .returned (.slice none 0 0) := he
    go_wp2_with fail
    go_ret
    exact ⟨rfl, by go_grown⟩
  | some o =>
    obtain rfl : e = .returned (.slice (some ⟨b3, o, none⟩) _ (c3 - o)) := he
    go_wp2_with fail
    go_ret
    exact ⟨rfl, by go_grown⟩

end Go.Proofs.Ytmmgcmbniidieaa.GmWord
