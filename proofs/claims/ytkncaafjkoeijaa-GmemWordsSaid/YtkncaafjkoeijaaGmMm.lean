
/- A memory as one structure: what stays where only its bytes turn. A memory of 64 bytes at 1000. -/
import Derived.Test.YtkncaafjkoeijaaGmOne
import Derived.Test.YtkncaafjkoeijaaGmWrite
import Derived.Test.YtkncaafjkoeijaaGmRead
import Derived.Test.YtkncaafjkoeijaaGmLoad
namespace Go.Proofs.Ytkncaafjkoeijaa.GmMm
open Go.RowKit Rw Le GmFind GmWord GmLoad GmWrite GmRead
set_option linter.unusedVariables false
set_option linter.unusedSimpArgs false

/-- A memory, its blocks apart. -/
structure Mm (w : World) (m k g1 b3 : Nat) (A2 : Option Addr) (c1 c2 n3 c3 : Nat) (r : Rg) : Prop where
  k1 : k ≤ 1000000
  rin : r.In k
  fit : r.Fits k n3
  n3c : n3 ≤ c3
  n3b : n3 ≤ 1000000000
  mem : MemAt w m k g1 A2 (some ⟨b3, 0, none⟩) c1 c2 n3 c3 r
  mb : m ≠ b3
  gb : g1 ≠ b3
  ab : ∀ a, A2 = some a → a.block ≠ b3
  lt : b3 < w.heap.size
section
variable {w w' : World} {m k g1 b3 c1 c2 n3 c3 : Nat} {A2 : Option Addr} {r : Rg}
theorem Mm.below (h : Mm w m k g1 b3 A2 c1 c2 n3 c3 r) (hb : Below w.heap.size w w') : Mm w' m k g1 b3 A2 c1 c2 n3 c3 r :=
  ⟨h.k1, h.rin, h.fit, h.n3c, h.n3b, h.mem.below hb, h.mb, h.gb, h.ab, Nat.lt_of_lt_of_le h.lt hb.size⟩
theorem Mm.only (h : Mm w m k g1 b3 A2 c1 c2 n3 c3 r) (hg : w.grownBy w' (some b3)) : Mm w' m k g1 b3 A2 c1 c2 n3 c3 r := by
  have hm := hg.block m h.mem.lt (by intro e; cases e; exact h.mb rfl)
  have hg1 := hg.block g1 h.mem.lt1 (by intro e; cases e; exact h.gb rfl)
  refine ⟨h.k1, h.rin, h.fit, h.n3c, h.n3b, ?_, h.mb, h.gb, h.ab, Nat.lt_of_lt_of_le h.lt hg.size⟩
  refine ⟨(World.cell?_of_block (a := ⟨m, 0, none⟩) hm).trans h.mem.self, (World.cell?_of_block (a := ⟨m, 1, none⟩) hm).trans h.mem.regs, (World.cell?_of_block (a := ⟨m, 2, none⟩) hm).trans h.mem.sts, (World.cell?_of_block (a := ⟨m, 3, none⟩) hm).trans h.mem.bys, Nat.lt_of_lt_of_le h.mem.lt hg.size, Nat.lt_of_lt_of_le h.mem.lt1 hg.size,
    fun j hj => (World.cell?_of_block (a := ⟨g1, j, none⟩) hg1).trans (h.mem.row1 j hj), fun b o _ he => ?_, fun hk => ?_⟩
  · rcases he with rfl | rfl
    · exact (World.frozen?_of_block (a := ⟨b, o, none⟩) hm).trans (h.mem.fz b o h.mem.lt (.inl rfl))
    · exact (World.frozen?_of_block (a := ⟨b, o, none⟩) hg1).trans (h.mem.fz b o h.mem.lt1 (.inr rfl))
  · obtain ⟨ad, e, hlt, hc⟩ := h.mem.row2 hk
    have hne := h.ab ad e
    exact ⟨ad, e, Nat.lt_of_lt_of_le hlt hg.size, fun j hj => (World.cell?_of_block (a := ad.add j) (by rw [block_of_add]; exact hg.block _ hlt (by intro e'; cases e'; exact hne rfl))).trans (hc j hj)⟩
end

theorem place64 {q n : Nat} (h : q + n ≤ 64) (hn : 1 ≤ n) : place (GmOne.oneM 1000 64) 1 (1000 + (q : Int)) (n : Int) = some q := by
  rw [GmOne.place_one, if_pos ⟨by omega, by omega, by omega⟩]
  congr 1
  omega
def New64P (w : World) (e : Ending) (w' : World) : Prop := ∃ (m g1 b3 c2 c3 : Nat) (A2 : Option Addr), e = .returned (.tuple #[.pointer (some ⟨m, 0, none⟩), .int .i64 0]) ∧ Mm w' m 1 g1 b3 A2 1 c2 64 c3 (GmOne.oneM 1000 64) ∧ w'.rowIs b3 5 c3 (fun _ => .int .u8 0) ∧ w.heap.size ≤ b3 ∧ Below w.heap.size w w'
theorem new64 (blk c : Nat) (w : World) (h0 : w.cell? ⟨blk, 0, none⟩ = some (.int .u64 1000)) (h1 : w.cell? ⟨blk, 1, none⟩ = some (.int .u64 64)) (hb : blk < w.heap.size) :
    Calls Try.prog 13 #[.slice (some ⟨blk, 0, none⟩) 1 c] w (New64P w) := by
  refine (GmOne.new_one 1000 64 blk c w (by decide) (by decide) (by decide) (by decide) h0 h1 hb).mono ?_
  rintro e W ⟨m, g1, b3, c2, n3, c3, A2, he, hM, hn3, hc3, hrow, hm, hg, hgm, hmb, hA, hg'⟩
  obtain rfl : n3 = 64 := by omega
  exact ⟨m, g1, b3, c2, c3, A2, he, ⟨by decide, GmOne.one_in (by decide) (by decide) (by decide), GmOne.one_fits (by decide) rfl, hc3, by decide, hM, by omega, by omega, fun a e => by have := hA a e; omega, hrow.lt⟩, hrow, by omega, hg'⟩
section
variable {w : World} {m g1 b3 c2 c3 : Nat} {A2 : Option Addr}
theorem store64 (q n : Nat) (v : Int) (F : Nat → Value) (hM : Mm w m 1 g1 b3 A2 1 c2 64 c3 (GmOne.oneM 1000 64)) (hrow : w.rowIs b3 5 c3 F) (hv : 0 ≤ v ∧ v ≤ 18446744073709551615) (hn : n = 1 ∨ n = 2 ∨ n = 4 ∨ n = 8) (h : q + n ≤ 64) :
    Calls Try.prog 20 #[.pointer (some ⟨m, 0, none⟩), .int .u64 (1000 + (q : Int)), .int .i64 n, .int .u64 v] w fun e w' => e = .returned (.int .i64 0) ∧ w'.rowIs b3 5 c3 (stF F q n v) ∧ w.grownBy w' (some b3) :=
  store_yes 1 m g1 b3 _ n v _ (GmOne.oneM 1000 64) F w hM.k1 hM.rin hM.fit hM.n3c hM.n3b hM.mem hM.n3c hrow hv.1 hv.2 (by omega) (by omega) (by omega) (place64 h (by omega))
theorem load64 (q n : Nat) (G : Nat → Int) (hM : Mm w m 1 g1 b3 A2 1 c2 64 c3 (GmOne.oneM 1000 64)) (hrow : w.rowIs b3 5 c3 (fun j => .int .u8 (G j))) (hG : Bytes G 64) (hn : n = 1 ∨ n = 2 ∨ n = 4 ∨ n = 8) (h : q + n ≤ 64) :
    Calls Try.prog 18 #[.pointer (some ⟨m, 0, none⟩), .int .u64 (1000 + (q : Int)), .int .i64 n] w (GmWord.Gives w.heap.size w (.tuple #[.int .u64 (wordI (fun j => G (q + j)) n), .int .i64 0])) := by
  have := load_yes 1 m g1 b3 (1000 + (q : Int)) n (GmOne.oneM 1000 64) G w hM.k1 hM.rin hM.fit hM.n3c hM.n3b hM.mem (fun j hj => hrow.cell (by have := hM.n3c; omega)) hG hM.lt (by omega) (by omega) (by omega)
  rw [place64 h (by omega)] at this
  exact this
theorem read64 (q n : Nat) (G : Nat → Int) (hM : Mm w m 1 g1 b3 A2 1 c2 64 c3 (GmOne.oneM 1000 64)) (hrow : w.rowIs b3 5 c3 (fun j => .int .u8 (G j))) (hn : 1 ≤ n) (h : q + n ≤ 64) :
    Calls Try.prog 22 #[.pointer (some ⟨m, 0, none⟩), .int .u64 (1000 + (q : Int)), .int .i64 n] w fun e w' => ∃ b, e = .returned (.tuple #[.slice (some ⟨b, 0, none⟩) n n, .int .i64 0]) ∧ w.heap.size ≤ b ∧ w'.rowIs b 5 n (fun j => .int .u8 (G (q + j))) ∧ Below w.heap.size w w' :=
  read_yes 1 m g1 b3 (1000 + (q : Int)) n (GmOne.oneM 1000 64) G w hM.k1 hM.rin hM.fit hM.n3c hM.n3b hM.mem (fun j hj => hrow.cell (by have := hM.n3c; omega)) hM.lt (by omega) (by omega) (by omega) (by omega) (place64 h hn)
theorem write64 (q N cb : Nat) (A : Option Addr) (F : Nat → Value) (gb : Nat → Int) (hM : Mm w m 1 g1 b3 A2 1 c2 64 c3 (GmOne.oneM 1000 64)) (hrow : w.rowIs b3 5 c3 F) (hsrc : IsRow w w.heap.size 1 A N (fun j => .int .u8 (gb j))) (hn : 1 ≤ N) (h : q + N ≤ 64) :
    Calls Try.prog 24 #[.pointer (some ⟨m, 0, none⟩), .int .u64 (1000 + (q : Int)), .slice A N cb] w fun e w' => e = .returned (.int .i64 0) ∧ w'.rowIs b3 5 c3 (wrF F q N gb) ∧ w.grownBy w' (some b3) :=
  write_yes 1 m g1 b3 N cb c3 q _ A (1000 + (q : Int)) (GmOne.oneM 1000 64) F gb w hM.k1 hM.rin hM.fit hM.n3c hM.n3b hM.mem hM.n3c hrow hsrc (by omega) (by omega) (by omega) (by omega) (place64 h hn)
theorem image64 (G : Nat → Int) (hM : Mm w m 1 g1 b3 A2 1 c2 64 c3 (GmOne.oneM 1000 64)) (hrow : w.rowIs b3 5 c3 (fun j => .int .u8 (G j))) :
    Calls Try.prog 29 #[.pointer (some ⟨m, 0, none⟩)] w fun e w' => ∃ b, e = .returned (.slice (some ⟨b, 0, none⟩) 64 64) ∧ w.heap.size ≤ b ∧ w'.rowIs b 5 64 (fun j => .int .u8 (G j)) ∧ Below w.heap.size w w' :=
  image_any m 64 c3 (some ⟨b3, 0, none⟩) G w (by decide) hM.mem.self hM.mem.bys (IsRow.of_rowIs (c := c3) hrow (by have := hM.n3c; omega))
end

end Go.Proofs.Ytkncaafjkoeijaa.GmMm
