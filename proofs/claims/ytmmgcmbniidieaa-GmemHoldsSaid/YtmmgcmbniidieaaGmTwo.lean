
/- Two memories side by side: a write in one keeps the other. -/
import Derived.Test.YtmmgcmbniidieaaGmRefS
import Derived.Test.YtmmgcmbniidieaaGmTwin
namespace Go.Proofs.Ytmmgcmbniidieaa.GmTwo
open Go.RowKit Rw Le GmFind GmWord GmCheck GmNew GmCopyR GmRef GmRefN GmRefM GmRefP
set_option linter.unusedVariables false
set_option linter.unusedSimpArgs false

theorem row_kept {W W' : World} {s n b : Nat} {A : Option Addr} {F : Nat → Value} (h : IsRow W W.heap.size s A n F) (hg : W.grownBy W' (some b)) (hA : ∀ ad, A = some ad → ad.block ≠ b) : IsRow W' W'.heap.size s A n F := fun hn => by
  obtain ⟨ad, e, hlt, hc⟩ := h hn
  refine ⟨ad, e, Nat.lt_of_lt_of_le hlt hg.size, fun j hj => (World.cell?_of_block (hg.block _ (by rw [block_of_add]; exact hlt) (fun e' => ?_))).trans (hc j hj)⟩
  rw [block_of_add] at e'
  injection e' with e'
  exact hA ad e e'
theorem frozen_kept {W W' : World} {b : Nat} (hg : W.grownBy W' (some b)) {q o : Nat} (hq : q < W.heap.size) (hne : q ≠ b) : W'.frozen? ⟨q, o, none⟩ = W.frozen? ⟨q, o, none⟩ := by
  have := hg.block q hq (fun e => hne (by injection e))
  simp only [World.frozen?, this]
theorem cell_kept {W W' : World} {b : Nat} (hg : W.grownBy W' (some b)) {q o : Nat} (hq : q < W.heap.size) (hne : q ≠ b) : W'.cell? ⟨q, o, none⟩ = W.cell? ⟨q, o, none⟩ :=
  World.cell?_of_block (hg.block q hq (fun e => hne (by injection e)))
/-- What another memory's write leaves of the program's. -/
theorem mem_kept {W W' : World} {m k g1 b : Nat} {A2 A3 : Option Addr} {c1 c2 n3 c3 : Nat} {r : Rg} (h : MemAt W m k g1 A2 A3 c1 c2 n3 c3 r) (hg : W.grownBy W' (some b)) (h1 : m ≠ b) (h2 : g1 ≠ b) (h3 : ∀ ad, A2 = some ad → ad.block ≠ b) : MemAt W' m k g1 A2 A3 c1 c2 n3 c3 r :=
  ⟨(cell_kept hg h.lt h1).trans h.self, (cell_kept hg h.lt h1).trans h.regs, (cell_kept hg h.lt h1).trans h.sts, (cell_kept hg h.lt h1).trans h.bys, Nat.lt_of_lt_of_le h.lt hg.size, Nat.lt_of_lt_of_le h.lt1 hg.size,
    fun j hj => (cell_kept hg h.lt1 h2).trans (h.row1 j hj), fun q o _ he => by
      rcases he with rfl | rfl
      · exact (frozen_kept hg h.lt h1).trans (h.fz _ o h.lt (.inl rfl))
      · exact (frozen_kept hg h.lt1 h2).trans (h.fz _ o h.lt1 (.inr rfl)), row_kept h.row2 hg h3⟩
/-- And of the document's. -/
theorem rm_kept {W W' : World} {mm k c b : Nat} {A : Option Addr} {r : Rg} {x : Value} {ps : List (Nat × Nat)} {g : Nat → Int} (h : RM W mm k c A r x ps g) (hg : W.grownBy W' (some b)) (h1 : mm ≠ b) (h2 : x.ownBlock ≠ some b) (h3 : ∀ ad, A = some ad → ad.block ≠ b) (h4 : ∀ p ∈ ps, p.1 ≠ b) : RM W' mm k c A r x ps g := by
  obtain ⟨B, ho⟩ := h.own
  exact ⟨h.k1, h.raw, h.rin, h.len1, h.st0, kept_row h.two hg (fun e => h1 (by injection e with e; exact e.symm)), row_kept h.lst hg h3, ⟨B, ho.kept hg (.inr h2)⟩, h.len,
    fun i p hp => kept_row (h.row i p hp) hg (fun e => h4 p (List.mem_of_getElem? hp) (by injection e with e; exact e.symm)), h.nd, h.ap, h.up⟩
/-- Where two memories of the same regions lie, the program's (older) and the document's. -/
structure Nums where
  B : Nat
  m : Nat
  g1 : Nat
  b3 : Nat
  c1 : Nat
  c2 : Nat
  n3 : Nat
  c3 : Nat
  mm : Nat
  c : Nat
  N0 : Nat
  k : Nat
  A2 : Option Addr
  A : Option Addr
  x : Value
  ps : List (Nat × Nat)
  r : Rg
structure Ok (P : Nums) : Prop where
  B0 : P.B ≤ P.b3
  B1 : P.B ≤ P.N0
  k16 : P.k ≤ 16
  inr : P.r.In P.k
  fits : P.r.Fits P.k P.n3
  n3 : P.n3 ≤ P.c3
  n3m : P.n3 ≤ 1048576
  m0 : P.m < P.N0
  g0 : P.g1 < P.N0
  b0 : P.b3 < P.N0
  a0 : ∀ ad, P.A2 = some ad → ad.block < P.N0
  mb : P.m ≠ P.b3
  gb : P.g1 ≠ P.b3
  ab : ∀ ad, P.A2 = some ad → ad.block ≠ P.b3
  mm0 : P.N0 ≤ P.mm
  x0 : ∀ b, P.x.ownBlock = some b → P.N0 ≤ b
  l0 : ∀ ad, P.A = some ad → P.N0 ≤ ad.block
  p0 : ∀ p ∈ P.ps, P.N0 ≤ p.1
/-- The program's bytes, and the document's. -/
structure Two (P : Nums) (W : World) (gp gd : Nat → Int) : Prop where
  mem : MemAt W P.m P.k P.g1 P.A2 (some ⟨P.b3, 0, none⟩) P.c1 P.c2 P.n3 P.c3 P.r
  row : W.rowIs P.b3 5 P.c3 (fun j => .int .u8 (gp j))
  rm : RM W P.mm P.k P.c P.A P.r P.x P.ps gd
  bp : ∀ j, 0 ≤ gp j ∧ gp j ≤ 255
  bd : ∀ j, 0 ≤ gd j ∧ gd j ≤ 255
section
variable {P : Nums} {W W' : World} {gp gd gp' gd' : Nat → Int}
theorem Two.below (h : Two P W gp gd) (hb : Below W.heap.size W W') : Two P W' gp gd := ⟨h.mem.below hb, h.row.of_block (hb.block _ h.row.lt), h.rm.below hb, h.bp, h.bd⟩
theorem Two.pwrote (h : Two P W gp gd) (o : Ok P) (hg : W.grownBy W' (some P.b3)) (hr : W'.rowIs P.b3 5 P.c3 (fun j => .int .u8 (gp' j))) (hb : ∀ j, 0 ≤ gp' j ∧ gp' j ≤ 255) : Two P W' gp' gd :=
  have b0 := o.b0
  ⟨mem_kept h.mem hg o.mb o.gb o.ab, hr, rm_kept h.rm hg (fun e => by have := o.mm0; omega) (fun e => by have := o.x0 _ e; omega) (fun ad e e' => by have := o.l0 ad e; omega) (fun p hp e => by have := o.p0 p hp; omega), hb, h.bd⟩
theorem Two.dwrote (h : Two P W gp gd) (o : Ok P) {p : Nat × Nat} (hp : p ∈ P.ps) (hg : W.grownBy W' (some p.1)) (hr : RM W' P.mm P.k P.c P.A P.r P.x P.ps gd') (hb : ∀ j, 0 ≤ gd' j ∧ gd' j ≤ 255) : Two P W' gp gd' :=
  have p0 := o.p0 p hp
  ⟨mem_kept h.mem hg (fun e => by have := o.m0; omega) (fun e => by have := o.g0; omega) (fun ad e e' => by have := o.a0 ad e; omega), kept_row h.row hg (fun e => by injection e with e; have := o.b0; omega), hr, h.bp, hb⟩
end
/-- Two new ones. -/
theorem two_new {w1 W1 w2 W2 : World} {B k m g1 b3 c2 n3 c3 mm cc : Nat} {A2 A : Option Addr} {r : Rg} {x : Value} {ps : List (Nat × Nat)} (hB : B ≤ m) (hk : k ≤ 16) (hr : Raw r k) (hs : ∀ i, i < k → Step r i)
    (hM : MemAt W1 m k g1 A2 (some ⟨b3, 0, none⟩) k c2 n3 c3 (stR r)) (h3 : (n3 : Int) = sum r k) (hc : n3 ≤ c3) (hrow : W1.rowIs b3 5 c3 (fun _ => .int .u8 0)) (q1 : g1 < m) (q2 : m < b3) (q3 : ∀ a, A2 = some a → m < a.block ∧ a.block < b3)
    (hb1 : Below W1.heap.size W1 w2) (hMM : MM W2 mm (.slice A k cc) x) (hP : Ps W2 mm mm x ps) (hl : ps.map (·.2) = lens k r) (hmm : w2.heap.size ≤ mm) (ho : W2.ownsRow w2.heap.size 55 2 (.slice A k cc) k (rowR k r)) (hbk : ∀ b, (Value.slice A k cc).ownBlock = some b → b < mm) (hb2 : Below w2.heap.size w2 W2) :
    ∃ P : Nums, (P.B = B ∧ P.m = m ∧ P.mm = mm ∧ P.k = k ∧ P.r = stR r ∧ P.n3 = n3) ∧ Ok P ∧ Two P W2 (fun _ => 0) (fun _ => 0) := by
  have h0 : ∀ j : Nat, 0 ≤ (fun _ : Nat => (0 : Int)) j ∧ (fun _ : Nat => (0 : Int)) j ≤ 255 := fun _ => ⟨Int.le_refl 0, by show (0 : Int) ≤ 255; decide⟩
  have hsm := GmTwin.sum_most hs
  have hlt := hrow.lt
  have hsz := hb1.size
  refine ⟨⟨B, m, g1, b3, k, c2, n3, c3, mm, cc, w2.heap.size, k, A2, A, x, ps, stR r⟩, ⟨rfl, rfl, rfl, rfl, rfl, rfl⟩, ⟨by show B ≤ b3; omega, by show B ≤ w2.heap.size; omega, hk, in_steps hr hs, GmTwin.fits_steps hr h3, hc, by show n3 ≤ 1048576; omega, by show m < w2.heap.size; omega, by show g1 < w2.heap.size; omega, by show b3 < w2.heap.size; omega, fun ad e => ?_, by show m ≠ b3; omega, by show g1 ≠ b3; omega, fun ad e => ?_, hmm, fun b e => ?_, fun ad e => ?_, fun p hp => ?_⟩, ⟨?_, ?_, RM.of_new hk hr hs hMM hP hl ho hbk, h0, h0⟩⟩
  · have := (q3 ad e).2; show ad.block < w2.heap.size; omega
  · have := (q3 ad e).2; show ad.block ≠ b3; omega
  · show w2.heap.size ≤ b
    have := (hP.own.lt b e).1
    omega
  · show w2.heap.size ≤ ad.block
    have e : A = some ad := e
    rcases ho.2 with ⟨h1, h2⟩ | ⟨G, cap, cur, he, _⟩
    · rw [e] at h1; cases h1
    · rw [e] at he
      injection he with e1 _ _
      injection e1 with e1
      subst e1
      exact (ho.lt G (by rw [e]; rfl)).1
  · show w2.heap.size ≤ p.1
    have := (hP.row p hp).1
    omega
  · exact (hM.below hb1).below (hb2.mono (Nat.le_refl _))
  · exact (hrow.of_block (hb1.block _ hlt)).of_block (hb2.block _ (by omega))
end Go.Proofs.Ytmmgcmbniidieaa.GmTwo
