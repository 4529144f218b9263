/- Two memories side by side: Read, Write and Has of each. -/
import Derived.Test.YtmmgcmbniidieaaGmTwoA
import Derived.Test.YtmmgcmbniidieaaGmRead
import Derived.Test.YtmmgcmbniidieaaGmWrite
namespace Go.Proofs.Ytmmgcmbniidieaa.GmTwo
open Go.RowKit Rw Le GmFind GmWord GmCheck GmNew GmLoad GmRead GmWrite GmRef GmRefN GmRefM GmRefP SgConcat
set_option linter.unusedVariables false
set_option linter.unusedSimpArgs false

/-- What Read answers. -/
def ReadIs (P : Nums) (g : Nat → Int) (a n : Int) (N : Nat) (G : Nat → Int) (e : Int) : Prop :=
  (n < 0 ∧ N = 0 ∧ e = 2) ∨ (n = 0 ∧ N = 0 ∧ e = 0) ∨ (1 ≤ n ∧ place P.r P.k a n = none ∧ N = 0 ∧ e = 5) ∨ (1 ≤ n ∧ ∃ o, place P.r P.k a n = some o ∧ n = N ∧ G = (fun j => g (o + j)) ∧ e = 0)
theorem read_some (P : Nums) (g : Nat → Int) (a n : Int) : ∃ N G e, ReadIs P g a n N G e := by
  by_cases h : n < 0
  · exact ⟨_, g, _, .inl ⟨h, rfl, rfl⟩⟩
  · by_cases h0 : n = 0
    · exact ⟨_, g, _, .inr (.inl ⟨h0, rfl, rfl⟩)⟩
    · cases hp : place P.r P.k a n with
      | none => exact ⟨_, g, _, .inr (.inr (.inl ⟨by omega, hp, rfl, rfl⟩))⟩
      | some o => exact ⟨n.toNat, _, _, .inr (.inr (.inr ⟨by omega, o, hp, by omega, rfl, rfl⟩))⟩
def RdP (N : Nat) (G : Nat → Int) (e : Int) (W : World) (x : Ending) (W' : World) : Prop :=
  ∃ (A : Option Addr) (c : Nat), x = .returned (.tuple #[.slice A N c, .int .i64 e]) ∧ IsRow W' W'.heap.size 1 A N (fun j => .int .u8 (G j)) ∧ Below W.heap.size W W'
theorem none_row {w : World} {B size : Nat} {A : Option Addr} {F : Nat → Value} : IsRow w B size A 0 F := fun h => absurd h (by decide)
section
variable {P : Nums} {gp gd : Nat → Int}
theorem p_read (o : Ok P) (a n : Int) (N : Nat) (G : Nat → Int) (e : Int) (W : World) (h : Two P W gp gd) (ha : 0 ≤ a ∧ a ≤ 18446744073709551615) (hn : n ≤ 9223372036854775807) (hl : ReadIs P gp a n N G e) :
    Calls Try.prog 18 #[.pointer (some ⟨P.m, 0, none⟩), .int .u64 a, .int .i64 n] W (RdP N G e W) := by
  rcases hl with ⟨h1, rfl, rfl⟩ | ⟨rfl, rfl, rfl⟩ | ⟨h1, hp, rfl, rfl⟩ | ⟨h1, q, hp, rfl, rfl, rfl⟩
  · exact (read_neg P.m a n W h.mem.self h1).mono fun x W' ⟨he, hb⟩ => ⟨_, _, he, none_row, hb⟩
  · exact (read_zero P.m a W h.mem.self).mono fun x W' ⟨he, hb⟩ => ⟨_, _, he, none_row, hb⟩
  · exact (read_out P.k P.m P.g1 P.b3 a n P.r W (by have := o.k16; omega) o.inr o.fits o.n3 (by have := o.n3m; omega) h.mem ha.1 ha.2 h1 hn hp).mono fun x W' ⟨he, hb⟩ => ⟨_, _, he, none_row, hb⟩
  · have := read_yes P.k P.m P.g1 P.b3 a N P.r gp W (by have := o.k16; omega) o.inr o.fits o.n3 (by have := o.n3m; omega) h.mem (h.by_ o) h.row.lt ha.1 ha.2 h1 hn hp
    rw [Int.toNat_natCast] at this
    exact this.mono fun x W' ⟨b, he, _, hr, hb⟩ => ⟨_, _, he, IsRow.of_rowIs (c := N) hr (by omega), hb⟩
theorem d_read (o : Ok P) (a n : Int) (N : Nat) (G : Nat → Int) (e : Int) (W : World) (h : Two P W gp gd) (ha : 0 ≤ a ∧ a ≤ 18446744073709551615) (hn : n ≤ 9223372036854775807) (hl : ReadIs P gd a n N G e) :
    Calls Try.prog 19 #[.pointer (some ⟨P.mm, 0, none⟩), .int .u64 a, .int .i64 n] W (RdP N G e W) := by
  rcases hl with ⟨h1, rfl, rfl⟩ | ⟨rfl, rfl, rfl⟩ | ⟨h1, hp, rfl, rfl⟩ | ⟨h1, q, hp, rfl, rfl, rfl⟩
  · exact (r_read_neg _ a n W h1).mono fun x W' ⟨he, hb⟩ => ⟨_, _, he, none_row, hb⟩
  · exact (r_read_zero _ a W).mono fun x W' ⟨he, hb⟩ => ⟨_, _, he, none_row, hb⟩
  · exact (r_read_no a n W h.rm ha (by omega) hp).mono fun x W' ⟨he, hb⟩ => ⟨_, _, he, none_row, hb⟩
  · have hf := place_fits o.fits hp
    have hm := o.n3m
    exact (r_read_ok a N q W h.rm ha (by omega) hp).mono fun x W' ⟨A, c, he, hr, hb⟩ => ⟨_, _, he, (IsRow.of_own hr).congr fun j hj => by
      have hj' : j < N := by omega
      simp [u8s, bytesAt, List.getD_eq_getElem?_getD, hj'], hb⟩
theorem p_has (o : Ok P) (a n : Int) (W : World) (h : Two P W gp gd) (ha : 0 ≤ a ∧ a ≤ 18446744073709551615) (hn : 0 ≤ n ∧ n ≤ 18446744073709551615) :
    Calls Try.prog 23 #[.pointer (some ⟨P.m, 0, none⟩), .int .u64 a, .int .u64 n] W (GmWord.Gives W.heap.size W (.bool (place P.r P.k a n).isSome)) :=
  has_any P.k P.m P.g1 P.b3 a n P.r W (by have := o.k16; omega) o.inr o.fits o.n3 (by have := o.n3m; omega) h.mem ha.1 ha.2 hn.1 hn.2
theorem d_has (a n : Int) (W : World) (h : Two P W gp gd) (ha : 0 ≤ a ∧ a ≤ 18446744073709551615) (hn : 0 ≤ n ∧ n ≤ 18446744073709551615) :
    Calls Try.prog 24 #[.pointer (some ⟨P.mm, 0, none⟩), .int .u64 a, .int .u64 n] W (GmWord.Gives W.heap.size W (.bool (place P.r P.k a n).isSome)) := h.rm.has ha hn
end

/-- What Write leaves, and answers. -/
def WriteIs (P : Nums) (g : Nat → Int) (a : Int) (N : Nat) (gb g' : Nat → Int) (e : Int) : Prop :=
  (N = 0 ∧ g' = g ∧ e = 0) ∨ (1 ≤ N ∧ place P.r P.k a N = none ∧ g' = g ∧ e = 5) ∨ (1 ≤ N ∧ ∃ o, place P.r P.k a N = some o ∧ g' = putG g o N gb ∧ e = 0)
theorem write_some (P : Nums) (g : Nat → Int) (a : Int) (N : Nat) (gb : Nat → Int) : ∃ g' e, WriteIs P g a N gb g' e := by
  by_cases h : N = 0
  · exact ⟨_, _, .inl ⟨h, rfl, rfl⟩⟩
  · cases hp : place P.r P.k a N with
    | none => exact ⟨_, _, .inr (.inl ⟨by omega, hp, rfl, rfl⟩)⟩
    | some o => exact ⟨_, _, .inr (.inr ⟨by omega, o, hp, rfl, rfl⟩)⟩
section
variable {P : Nums} {gp gd : Nat → Int}
theorem p_write (o : Ok P) (a : Int) (A : Option Addr) (N c : Nat) (gb g' : Nat → Int) (e : Int) (W : World) (h : Two P W gp gd) (ha : 0 ≤ a ∧ a ≤ 18446744073709551615) (hN : N ≤ 2000) (hb : ∀ j, 0 ≤ gb j ∧ gb j ≤ 255) (hs : IsRow W W.heap.size 1 A N (fun j => .int .u8 (gb j))) (hl : WriteIs P gp a N gb g' e) :
    Calls Try.prog 20 #[.pointer (some ⟨P.m, 0, none⟩), .int .u64 a, .slice A N c] W fun x W' => x = .returned (.int .i64 e) ∧ Two P W' g' gd ∧ Wr P W W' := by
  rcases hl with ⟨rfl, rfl, rfl⟩ | ⟨hn, hp, rfl, rfl⟩ | ⟨hn, q, hp, rfl, rfl⟩
  · exact (write_zero P.m c A a W h.mem.self).mono fun x W' ⟨he, hb⟩ => ⟨he, h.below hb, Wr.none_ hb⟩
  · exact (write_out P.k P.m P.g1 P.b3 N c A a P.r W (by have := o.k16; omega) o.inr o.fits o.n3 (by have := o.n3m; omega) h.mem ha.1 ha.2 hn (by omega) hp).mono fun x W' ⟨he, hb⟩ => ⟨he, h.below hb, Wr.none_ hb⟩
  · refine (write_yes P.k P.m P.g1 P.b3 N c P.c3 q 5 A a P.r _ gb W (by have := o.k16; omega) o.inr o.fits o.n3 (by have := o.n3m; omega) h.mem o.n3 h.row hs ha.1 ha.2 hn (by omega) hp).mono fun x W' ⟨he, hr, hg⟩ => ⟨he, h.pwrote o hg (hr.congr fun j hj => ?_) (put_lo h.bp hb), ⟨_, .inl rfl, hg⟩⟩
    unfold wrF putG
    split <;> rfl
theorem d_write (o : Ok P) (a : Int) (A : Option Addr) (N c : Nat) (gb g' : Nat → Int) (e : Int) (W : World) (h : Two P W gp gd) (ha : 0 ≤ a ∧ a ≤ 18446744073709551615) (hN : N ≤ 2000) (hb : ∀ j, 0 ≤ gb j ∧ gb j ≤ 255) (hs : IsRow W W.heap.size 1 A N (fun j => .int .u8 (gb j))) (hl : WriteIs P gd a N gb g' e) :
    Calls Try.prog 22 #[.pointer (some ⟨P.mm, 0, none⟩), .int .u64 a, .slice A N c] W fun x W' => x = .returned (.int .i64 e) ∧ Two P W' gp g' ∧ Wr P W W' := by
  rcases hl with ⟨rfl, rfl, rfl⟩ | ⟨hn, hp, rfl, rfl⟩ | ⟨hn, q, hp, rfl, rfl⟩
  · exact (r_write_zero _ a A c W).mono fun x W' ⟨he, hb⟩ => ⟨he, h.below hb, Wr.none_ hb⟩
  · exact (r_write_no a N c A W h.rm ha (by omega) hp).mono fun x W' ⟨he, hb⟩ => ⟨he, h.below hb, Wr.none_ hb⟩
  · exact (r_write_ok a N q c A gb W h.rm ha (by omega) hp hs).mono fun x W' ⟨he, hr, p, hpp, hg⟩ => ⟨he, h.dwrote o hpp hg hr (put_lo h.bd hb), ⟨_, .inr ⟨p, hpp, rfl⟩, hg⟩⟩
end
end Go.Proofs.Ytmmgcmbniidieaa.GmTwo
