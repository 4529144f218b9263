
/- slices.Chunk over bytes, by sixteen: what its iterator hands to a loop's body. -/
import Derived.RangeFuncNested
import Derived.RangeFuncBound
import Derived.RangeFuncCalls
import Derived.RangeFuncLeaves
import Derived.Shelf.Abstract
import Derived.Shelf.RegionOpen
import Derived.WalkKit
import Derived.OwnWalkIn
import Derived.TacticsInMore
import Derived.LoopNIn
import Derived.LoopIn
import Derived.Test.YtkncaafjkoeijaaDesTab
import Derived.RegionTactic
import Derived.BigRegion
namespace Go.Proofs.Ytkncaafjkoeijaa.DesIter
open Go.RowKit Go.Shelf Le Rw DesPut
set_option linter.unusedVariables false
set_option linter.unusedSimpArgs false
attribute [local go_sem] Oper.semAt_some

def upto {α : Type} (f : Nat → α) (k : Nat) : List α := (List.range k).map f
theorem upto_succ {α : Type} (f : Nat → α) (k : Nat) : upto f (k + 1) = upto f k ++ [f k] := by simp [upto, List.range_succ]
abbrev Pc (N : Nat) := { x : Nat // x < N }
theorem upto_length {α : Type} (f : Nat → α) (k : Nat) : (upto f k).length = k := by simp [upto]

/-- The iterator's two boxes hold what they held. -/
structure KB (Bs Bn : Nat) (W W' : World) : Prop where
  s : W'.cell? ⟨Bs, 0, none⟩ = W.cell? ⟨Bs, 0, none⟩
  n : W'.cell? ⟨Bn, 0, none⟩ = W.cell? ⟨Bn, 0, none⟩
theorem KB.refl (Bs Bn : Nat) (W : World) : KB Bs Bn W W := ⟨rfl, rfl⟩
theorem KB.trans {Bs Bn : Nat} {X Y Z : World} (h : KB Bs Bn X Y) (k : KB Bs Bn Y Z) : KB Bs Bn X Z := ⟨k.s.trans h.s, k.n.trans h.n⟩
theorem KB.put {Bs Bn : Nat} (W : World) (l : Nat) (o' : Obj) (hs : Bs < l) (hn : Bn < l) : KB Bs Bn W (W.putObj l o') :=
  ⟨World.cell?_of_block (World.putObj_heap_other (show Bs ≠ l by omega)), World.cell?_of_block (World.putObj_heap_other (show Bn ≠ l by omega))⟩

set_option maxRecDepth 100000 in
set_option maxHeartbeats 2000000 in
theorem chunk1_in (n l Bs Bn N c B : Nat) (ad : Addr) (hN : N ≤ 1000000) (hc : 16 * N ≤ c) (J Jx : List (Pc N) → World → Prop) (hJ : AbidesFrom B J)
    (hY : ∀ pre x W, J pre W → pre.length < N → YieldAt Fence.wide (n - 1) Try.prog l #[.slice (some (ad.add (16 * x.1))) 16 16] W fun e W' =>
      (e = .returned (.bool true) ∧ J (pre ++ [x]) W' ∧ KB Bs Bn W W') ∨ (e = .returned (.bool false) ∧ Jx (pre ++ [x]) W'))
    (W : World) (hBs : W.cell? ⟨Bs, 0, none⟩ = some (.slice (some ad) (16 * N) c)) (hBn : W.cell? ⟨Bn, 0, none⟩ = some (.int .i64 16)) (h0 : J [] W) :
    CallsIn Fence.wide n Try.prog 126 #[.func (.yield l) #[] #[], .pointer (some ⟨Bs, 0, none⟩), .pointer (some ⟨Bn, 0, none⟩)] W fun e W' => (∃ v, e = .returned v) ∧
      ((∃ ys, ys.map (·.1) = upto id N ∧ J ys W') ∨ (∃ pre, True ∧ Jx pre W')) := by
  refine callsIn_of_wp Try.func126 rfl trivial ?_ rfl
  simp only [Try.ntmps126, List.size_toArray, List.length_cons, List.length_nil, Nat.reduceAdd, Nat.reduceSub, Array.replicate_succ, Array.replicate_zero, List.push_toArray, List.append_toArray, List.nil_append, List.cons_append]
  gi_wp2
  gi_loopw [4, 5] (fun i _ wr => ∃ (k : Nat) (pre : List (Pc N)), k ≤ N ∧ i = .int .i64 ((16 * k : Nat) : Int) ∧ pre.map (·.1) = upto id k ∧ J pre wr ∧ KB Bs Bn W wr)
    (fun i _ _ => 16 * N - (intOf i).toNat)
  case atStart => exact ⟨0, [], Nat.zero_le _, rfl, rfl, h0, KB.refl _ _ _⟩
  case round =>
    obtain ⟨k, pre, hk, rfl, hpre, hJs, hnx⟩ := hrel
    have hpl : pre.length = k := by have := congrArg List.length hpre; rwa [List.length_map, upto_length] at this
    have HP := Lib.hid hpre
    have HL := Lib.hid hpl
    clear hpre hpl
    have hcs : wr.cell? ⟨Bs, 0, none⟩ = some (.slice (some ad) (16 * N) c) := hnx.s.trans hBs
    have hcn : wr.cell? ⟨Bn, 0, none⟩ = some (.int .i64 16) := hnx.n.trans hBn
    by_cases hlt : k < N
    · have e1 : ((16 * k : Nat) : Int).toNat = 16 * k := by omega
      gi_wp2
      refine wpIn_wide.2 ?_
      go_region
      have hJd : J pre wr.drew := hJ _ wr wr.drew none hJs (only_drew (World.grownBy.refl _ _)) (fun r e => by cases e)
      obtain ⟨fn, tmps, assign, body, hy, hR⟩ := hY pre ⟨k, hlt⟩ wr.drew hJd (by rw [HL.out]; exact hlt)
      dsimp only at hy
      have e2 : ((16 * k : Nat) : Int) + 16 ≤ 16 * N := by omega
      gi_wp2
      refine ⟨fun h => by simp [Fence.wide] at h, hR.mono ?_⟩
      rintro e W3 (⟨rfl, hJ3, hk3⟩ | ⟨rfl, hJx3⟩)
      · have hcn3 : W3.cell? ⟨Bn, 0, none⟩ = some (.int .i64 16) := hk3.n.trans hcn
        gi_wp2
        go_roundw
        case rel => exact ⟨k + 1, pre ++ [⟨k, hlt⟩], by omega, by rw [show 16 * (k + 1) = 16 * k + 16 from by omega]; go_num, by rw [upto_succ, List.map_append, HP.out]; rfl, hJ3, hnx.trans ⟨hk3.s, hk3.n⟩⟩
        case measure => simp [intOf]; omega
      · gi_wp2
        refine bodyPost_ret (results_none rfl _ _ _) rfl ?_
        exact ⟨⟨_, rfl⟩, .inr ⟨_, trivial, hJx3⟩⟩
    · obtain rfl : k = N := by omega
      gi_wp2
      go_end0
      exact ⟨⟨_, rfl⟩, .inl ⟨_, HP.out, hJs⟩⟩

set_option maxRecDepth 100000 in
set_option maxHeartbeats 1000000 in
/-- .. where there is nothing: no round. -/
theorem chunk1_nil (n l Bs Bn c : Nat) (A : Option Addr) {α : Type} (J : List α → World → Prop) (W : World) (hBs : W.cell? ⟨Bs, 0, none⟩ = some (.slice A 0 c)) (h0 : J [] W) :
    CallsIn Fence.wide n Try.prog 126 #[.func (.yield l) #[] #[], .pointer (some ⟨Bs, 0, none⟩), .pointer (some ⟨Bn, 0, none⟩)] W fun e W' => (∃ v, e = .returned v) ∧ J [] W' := by
  refine callsIn_of_wp Try.func126 rfl trivial ?_ rfl
  simp only [Try.ntmps126, List.size_toArray, List.length_cons, List.length_nil, Nat.reduceAdd, Nat.reduceSub, Array.replicate_succ, Array.replicate_zero, List.push_toArray, List.append_toArray, List.nil_append, List.cons_append]
  gi_wp2
  gi_loopw [4, 5] (fun i _ wr => i = .int .i64 0 ∧ wr.cell? ⟨Bs, 0, none⟩ = some (.slice A 0 c) ∧ J [] wr) (fun _ _ _ => 0)
  case atStart => exact ⟨rfl, hBs, h0⟩
  case round =>
    obtain ⟨rfl, hc, hJs⟩ := hrel
    gi_wp2
    go_end0
    exact ⟨⟨_, rfl⟩, hJs⟩

/-- slices.Chunk(s, 16): the slice and the number are boxed; the function value holds the boxes. -/
theorem chunk_in (n : Nat) (A : Option Addr) (len cap : Nat) (w : World) :
    CallsIn Fence.wide n Try.prog 106 #[.slice A len cap, .int .i64 16] w fun e w' => e = .returned (.func (.func 126) #[] #[.pointer (some ⟨w.heap.size, 0, none⟩), .pointer (some ⟨w.heap.size + 1, 0, none⟩)]) ∧ w' = (w.alloc (.cells #[.slice A len cap] 37)).alloc (.cells #[.int .i64 16] 3) := by
  refine callsIn_of_wp Try.func106 rfl trivial ?_ rfl
  simp only [Try.ntmps106, List.size_toArray, List.length_cons, List.length_nil, Nat.reduceAdd, Nat.reduceSub, Array.replicate_succ, Array.replicate_zero, List.push_toArray, List.append_toArray, List.nil_append, List.cons_append]
  gi_wp2
  go_ret
  exact ⟨rfl, rfl⟩

/-- What slices.Chunk(s, 16) hands back gives the pieces of sixteen, in order: their numbers. -/
theorem chunk_stops (n Bs Bn N c : Nat) (A : Option Addr) (hN : N ≤ 1000000) (hc : 16 * N ≤ c) (w : World) (hs1 : Bs < w.heap.size) (hn1 : Bn < w.heap.size) (hA : 0 < N → ∃ ad, A = some ad)
    (hBs : w.cell? ⟨Bs, 0, none⟩ = some (.slice A (16 * N) c)) (hBn : w.cell? ⟨Bn, 0, none⟩ = some (.int .i64 16)) :
    SeqStopsK Fence.wide n Try.prog 126 #[.pointer (some ⟨Bs, 0, none⟩), .pointer (some ⟨Bn, 0, none⟩)] (fun x : Pc N => #[Value.slice (A.map fun ad => ad.add (16 * x.1)) 16 16]) (KB Bs Bn) (fun ys => ys.map (·.1) = upto id N) (fun _ => True) N w := fun l J Jx W hW hJ hJx hY h0 => by
  have hc' := (hW.cell (p := ⟨Bs, 0, none⟩) hs1).trans hBs
  have hn' := (hW.cell (p := ⟨Bn, 0, none⟩) hn1).trans hBn
  by_cases h : N = 0
  · subst h
    exact (chunk1_nil n l Bs Bn c A J W hc' h0).mono fun e W' ⟨he, hj⟩ => ⟨he, .inl ⟨_, rfl, hj⟩⟩
  · obtain ⟨ad, rfl⟩ := hA (by omega)
    exact chunk1_in n l Bs Bn N c W.heap.size ad hN hc J Jx hJ (fun pre x W1 h1 h2 => hY pre x W1 h1 h2) W hc' hn' h0

end Go.Proofs.Ytkncaafjkoeijaa.DesIter
