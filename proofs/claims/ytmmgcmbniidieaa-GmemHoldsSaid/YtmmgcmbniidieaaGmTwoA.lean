/- Two memories side by side: Load and Store of each. -/
import Derived.Test.YtmmgcmbniidieaaGmTwo
namespace Go.Proofs.Ytmmgcmbniidieaa.GmTwo
open Go.RowKit Rw Le GmFind GmWord GmCheck GmNew GmLoad GmRef GmRefN GmRefM GmRefP
set_option linter.unusedVariables false
set_option linter.unusedSimpArgs false

/-- What a call that writes may have turned: one block of the memory that it writes. -/
def Wr (P : Nums) (W W' : World) : Prop := ∃ b, (b = P.b3 ∨ ∃ p ∈ P.ps, p.1 = b) ∧ W.grownBy W' (some b)
theorem Wr.none_ {P : Nums} {W W' : World} (h : Below W.heap.size W W') : Wr P W W' := ⟨P.b3, .inl rfl, only_of_below h _⟩
def Ok8 (nb : Int) : Prop := nb = 1 ∨ nb = 2 ∨ nb = 4 ∨ nb = 8
/-- What Load answers. -/
def LoadIs (P : Nums) (g : Nat → Int) (a nb v e : Int) : Prop :=
  (¬ Ok8 nb ∧ v = 0 ∧ e = 2) ∨ (Ok8 nb ∧ place P.r P.k a nb = none ∧ v = 0 ∧ e = 5) ∨ (Ok8 nb ∧ ∃ o, place P.r P.k a nb = some o ∧ v = wordI (fun j => g (o + j)) nb.toNat ∧ e = 0)
theorem load_some (P : Nums) (g : Nat → Int) (a nb : Int) : ∃ v e, LoadIs P g a nb v e := by
  by_cases h : Ok8 nb
  · cases hp : place P.r P.k a nb with
    | none => exact ⟨_, _, .inr (.inl ⟨h, hp, rfl, rfl⟩)⟩
    | some o => exact ⟨_, _, .inr (.inr ⟨h, o, hp, rfl, rfl⟩)⟩
  · exact ⟨_, _, .inl ⟨h, rfl, rfl⟩⟩
section
variable {P : Nums} {gp gd : Nat → Int}
theorem Two.by_ {W : World} (h : Two P W gp gd) (o : Ok P) : By W P.b3 P.n3 gp := fun j hj => h.row.cell (i := j) (by have := o.n3; omega)
theorem p_load (o : Ok P) (a nb v e : Int) (W : World) (h : Two P W gp gd) (ha : 0 ≤ a ∧ a ≤ 18446744073709551615) (hl : LoadIs P gp a nb v e) :
    Calls Try.prog 14 #[.pointer (some ⟨P.m, 0, none⟩), .int .u64 a, .int .i64 nb] W (GmWord.Gives W.heap.size W (.tuple #[.int .u64 v, .int .i64 e])) := by
  rcases hl with ⟨hn, rfl, rfl⟩ | ⟨hn, hp, rfl, rfl⟩ | ⟨hn, q, hp, rfl, rfl⟩
  · exact load_no P.m a nb W h.mem.self hn
  · have := load_yes P.k P.m P.g1 P.b3 a nb P.r gp W (by have := o.k16; omega) o.inr o.fits o.n3 (by have := o.n3m; omega) h.mem (h.by_ o) (fun i _ => h.bp i) h.row.lt ha.1 ha.2 hn
    rwa [hp] at this
  · have := load_yes P.k P.m P.g1 P.b3 a nb P.r gp W (by have := o.k16; omega) o.inr o.fits o.n3 (by have := o.n3m; omega) h.mem (h.by_ o) (fun i _ => h.bp i) h.row.lt ha.1 ha.2 hn
    rwa [hp] at this
theorem d_load (a nb v e : Int) (W : World) (h : Two P W gp gd) (ha : 0 ≤ a ∧ a ≤ 18446744073709551615) (hl : LoadIs P gd a nb v e) :
    Calls Try.prog 15 #[.pointer (some ⟨P.mm, 0, none⟩), .int .u64 a, .int .i64 nb] W (GmWord.Gives W.heap.size W (.tuple #[.int .u64 v, .int .i64 e])) := by
  rcases hl with ⟨hn, rfl, rfl⟩ | ⟨hn, hp, rfl, rfl⟩ | ⟨hn, q, hp, rfl, rfl⟩
  · exact r_load_no _ a nb W hn
  · exact r_load_out a nb W h.rm ha hn hp
  · obtain ⟨n, rfl⟩ : ∃ n : Nat, nb = n := ⟨nb.toNat, by unfold Ok8 at hn; omega⟩
    exact r_load_ok a n q W h.rm ha hn hp h.bd
end

/-- What Store leaves, and answers. -/
def StoreIs (P : Nums) (g : Nat → Int) (a nb v : Int) (g' : Nat → Int) (e : Int) : Prop :=
  (¬ Ok8 nb ∧ g' = g ∧ e = 2) ∨ (Ok8 nb ∧ place P.r P.k a nb = none ∧ g' = g ∧ e = 5) ∨ (Ok8 nb ∧ ∃ o, place P.r P.k a nb = some o ∧ g' = putG g o nb.toNat (byteI v) ∧ e = 0)
theorem store_some (P : Nums) (g : Nat → Int) (a nb v : Int) : ∃ g' e, StoreIs P g a nb v g' e := by
  by_cases h : Ok8 nb
  · cases hp : place P.r P.k a nb with
    | none => exact ⟨_, _, .inr (.inl ⟨h, hp, rfl, rfl⟩)⟩
    | some o => exact ⟨_, _, .inr (.inr ⟨h, o, hp, rfl, rfl⟩)⟩
  · exact ⟨_, _, .inl ⟨h, rfl, rfl⟩⟩
theorem put_lo {g gb : Nat → Int} {o n : Nat} (h : ∀ j, 0 ≤ g j ∧ g j ≤ 255) (hb : ∀ j, 0 ≤ gb j ∧ gb j ≤ 255) : ∀ j, 0 ≤ putG g o n gb j ∧ putG g o n gb j ≤ 255 := fun j => by
  unfold putG
  split
  · exact hb _
  · exact h _
section
variable {P : Nums} {gp gd : Nat → Int}
theorem p_store (o : Ok P) (a nb v e : Int) (g' : Nat → Int) (W : World) (h : Two P W gp gd) (ha : 0 ≤ a ∧ a ≤ 18446744073709551615) (hv : 0 ≤ v ∧ v ≤ 18446744073709551615) (hl : StoreIs P gp a nb v g' e) :
    Calls Try.prog 16 #[.pointer (some ⟨P.m, 0, none⟩), .int .u64 a, .int .i64 nb, .int .u64 v] W fun x W' => x = .returned (.int .i64 e) ∧ Two P W' g' gd ∧ Wr P W W' := by
  rcases hl with ⟨hn, rfl, rfl⟩ | ⟨hn, hp, rfl, rfl⟩ | ⟨hn, q, hp, rfl, rfl⟩
  · exact (store_no P.m a nb v W h.mem.self hn).mono fun x W' ⟨he, hb⟩ => ⟨he, h.below hb, Wr.none_ hb⟩
  · exact (store_out P.k P.m P.g1 P.b3 a nb v P.r W (by have := o.k16; omega) o.inr o.fits o.n3 (by have := o.n3m; omega) h.mem ha.1 ha.2 hn hp).mono fun x W' ⟨he, hb⟩ => ⟨he, h.below hb, Wr.none_ hb⟩
  · refine (store_yes P.k P.m P.g1 P.b3 a nb v 5 P.r _ W (by have := o.k16; omega) o.inr o.fits o.n3 (by have := o.n3m; omega) h.mem o.n3 h.row hv.1 hv.2 ha.1 ha.2 hn hp).mono fun x W' ⟨he, hr, hg⟩ => ⟨he, h.pwrote o hg (hr.congr fun j hj => ?_) (put_lo h.bp (byte_lo v)), ⟨_, .inl rfl, hg⟩⟩
    unfold stF putG
    split <;> rfl
theorem d_store (o : Ok P) (a nb v e : Int) (g' : Nat → Int) (W : World) (h : Two P W gp gd) (ha : 0 ≤ a ∧ a ≤ 18446744073709551615) (hv : 0 ≤ v ∧ v ≤ 18446744073709551615) (hl : StoreIs P gd a nb v g' e) :
    Calls Try.prog 17 #[.pointer (some ⟨P.mm, 0, none⟩), .int .u64 a, .int .i64 nb, .int .u64 v] W fun x W' => x = .returned (.int .i64 e) ∧ Two P W' gp g' ∧ Wr P W W' := by
  rcases hl with ⟨hn, rfl, rfl⟩ | ⟨hn, hp, rfl, rfl⟩ | ⟨hn, q, hp, rfl, rfl⟩
  · exact (r_store_no _ a nb v W hn).mono fun x W' ⟨he, hb⟩ => ⟨he, h.below hb, Wr.none_ hb⟩
  · exact (r_store_out a nb v W h.rm ha hn hp).mono fun x W' ⟨he, hb⟩ => ⟨he, h.below hb, Wr.none_ hb⟩
  · obtain ⟨n, rfl⟩ : ∃ n : Nat, nb = n := ⟨nb.toNat, by unfold Ok8 at hn; omega⟩
    exact (r_store_ok a v n q W h.rm ha hv hn hp).mono fun x W' ⟨he, hr, p, hpp, hg⟩ => ⟨he, h.dwrote o hpp hg hr (put_lo h.bd (byte_lo v)), ⟨_, .inr ⟨p, hpp, rfl⟩, hg⟩⟩
end
end Go.Proofs.Ytmmgcmbniidieaa.GmTwo
