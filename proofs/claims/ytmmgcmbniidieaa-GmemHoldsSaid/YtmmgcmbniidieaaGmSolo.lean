/- The program's memory alone, of any list: what each call answers and leaves. -/
import Derived.Test.YtmmgcmbniidieaaGmPair
namespace Go.Proofs.Ytmmgcmbniidieaa.GmSolo
open Go.RowKit Rw Le GmFind GmWord GmCheck GmNew GmLoad GmRead GmWrite GmRef GmRefN GmRefM GmRefP GmTwo GmPair GmZero GmTwin SgConcat
set_option linter.unusedVariables false
set_option linter.unusedSimpArgs false

structure OkS (P : Nums) : Prop where
  B0 : P.B ≤ P.b3
  k16 : P.k ≤ 16
  inr : P.r.In P.k
  fits : P.r.Fits P.k P.n3
  n3 : P.n3 ≤ P.c3
  n3m : P.n3 ≤ 1048576
  mb : P.m ≠ P.b3
  gb : P.g1 ≠ P.b3
  ab : ∀ ad, P.A2 = some ad → ad.block ≠ P.b3
structure One (P : Nums) (W : World) (g : Nat → Int) : Prop where
  mem : MemAt W P.m P.k P.g1 P.A2 (some ⟨P.b3, 0, none⟩) P.c1 P.c2 P.n3 P.c3 P.r
  row : W.rowIs P.b3 5 P.c3 (fun j => .int .u8 (g j))
  lo : ∀ j, 0 ≤ g j ∧ g j ≤ 255
section
variable {P : Nums} {W W' : World} {g g' : Nat → Int}
theorem One.below (h : One P W g) (hb : Below W.heap.size W W') : One P W' g := ⟨h.mem.below hb, h.row.of_block (hb.block _ h.row.lt), h.lo⟩
theorem One.wrote (h : One P W g) (o : OkS P) (hg : W.grownBy W' (some P.b3)) (hr : W'.rowIs P.b3 5 P.c3 (fun j => .int .u8 (g' j))) (hb : ∀ j, 0 ≤ g' j ∧ g' j ≤ 255) : One P W' g' := ⟨mem_kept h.mem hg o.mb o.gb o.ab, hr, hb⟩
theorem One.by_ (h : One P W g) (o : OkS P) : By W P.b3 P.n3 g := fun j hj => h.row.cell (i := j) (by have := o.n3; omega)
theorem s_load (o : OkS P) (a nb v e : Int) (W : World) (h : One P W g) (ha : u64in a) (hl : LoadIs P g a nb v e) :
    Calls Try.prog 14 #[.pointer (some ⟨P.m, 0, none⟩), .int .u64 a, .int .i64 nb] W (GmWord.Gives W.heap.size W (.tuple #[.int .u64 v, .int .i64 e])) := by
  rcases hl with ⟨hn, rfl, rfl⟩ | ⟨hn, hp, rfl, rfl⟩ | ⟨hn, q, hp, rfl, rfl⟩
  · exact load_no P.m a nb W h.mem.self hn
  · have := load_yes P.k P.m P.g1 P.b3 a nb P.r g W (by have := o.k16; omega) o.inr o.fits o.n3 (by have := o.n3m; omega) h.mem (h.by_ o) (fun i _ => h.lo i) h.row.lt ha.1 ha.2 hn
    rwa [hp] at this
  · have := load_yes P.k P.m P.g1 P.b3 a nb P.r g W (by have := o.k16; omega) o.inr o.fits o.n3 (by have := o.n3m; omega) h.mem (h.by_ o) (fun i _ => h.lo i) h.row.lt ha.1 ha.2 hn
    rwa [hp] at this
theorem s_store (o : OkS P) {top : Nat} (ht : P.b3 < top) (a nb v e : Int) (g' : Nat → Int) (W : World) (h : One P W g) (ha : u64in a) (hv : u64in v) (hl : StoreIs P g a nb v g' e) :
    Calls Try.prog 16 #[.pointer (some ⟨P.m, 0, none⟩), .int .u64 a, .int .i64 nb, .int .u64 v] W fun x W' => x = .returned (.int .i64 e) ∧ One P W' g' ∧ Turned P.B top W W' := by
  rcases hl with ⟨hn, rfl, rfl⟩ | ⟨hn, hp, rfl, rfl⟩ | ⟨hn, q, hp, rfl, rfl⟩
  · exact (store_no P.m a nb v W h.mem.self hn).mono fun x W' ⟨he, hb⟩ => ⟨he, h.below hb, ⟨P.b3, o.B0, ht, only_of_below hb _⟩⟩
  · exact (store_out P.k P.m P.g1 P.b3 a nb v P.r W (by have := o.k16; omega) o.inr o.fits o.n3 (by have := o.n3m; omega) h.mem ha.1 ha.2 hn hp).mono fun x W' ⟨he, hb⟩ => ⟨he, h.below hb, ⟨P.b3, o.B0, ht, only_of_below hb _⟩⟩
  · refine (store_yes P.k P.m P.g1 P.b3 a nb v 5 P.r _ W (by have := o.k16; omega) o.inr o.fits o.n3 (by have := o.n3m; omega) h.mem o.n3 h.row hv.1 hv.2 ha.1 ha.2 hn hp).mono fun x W' ⟨he, hr, hg⟩ => ⟨he, h.wrote o hg (hr.congr fun j hj => ?_) (put_lo h.lo (byte_lo v)), ⟨P.b3, o.B0, ht, hg⟩⟩
    unfold stF putG
    split <;> rfl
theorem s_write (o : OkS P) {top : Nat} (ht : P.b3 < top) (a : Int) (A : Option Addr) (N c : Nat) (gb g' : Nat → Int) (e : Int) (W : World) (h : One P W g) (ha : u64in a) (hN : N ≤ 2000) (hb : ∀ j, 0 ≤ gb j ∧ gb j ≤ 255) (hs : IsRow W W.heap.size 1 A N (fun j => .int .u8 (gb j))) (hl : WriteIs P g a N gb g' e) :
    Calls Try.prog 20 #[.pointer (some ⟨P.m, 0, none⟩), .int .u64 a, .slice A N c] W fun x W' => x = .returned (.int .i64 e) ∧ One P W' g' ∧ Turned P.B top W W' := by
  rcases hl with ⟨rfl, rfl, rfl⟩ | ⟨hn, hp, rfl, rfl⟩ | ⟨hn, q, hp, rfl, rfl⟩
  · exact (write_zero P.m c A a W h.mem.self).mono fun x W' ⟨he, hb⟩ => ⟨he, h.below hb, ⟨P.b3, o.B0, ht, only_of_below hb _⟩⟩
  · exact (write_out P.k P.m P.g1 P.b3 N c A a P.r W (by have := o.k16; omega) o.inr o.fits o.n3 (by have := o.n3m; omega) h.mem ha.1 ha.2 hn (by omega) hp).mono fun x W' ⟨he, hb⟩ => ⟨he, h.below hb, ⟨P.b3, o.B0, ht, only_of_below hb _⟩⟩
  · refine (write_yes P.k P.m P.g1 P.b3 N c P.c3 q 5 A a P.r _ gb W (by have := o.k16; omega) o.inr o.fits o.n3 (by have := o.n3m; omega) h.mem o.n3 h.row hs ha.1 ha.2 hn (by omega) hp).mono fun x W' ⟨he, hr, hg⟩ => ⟨he, h.wrote o hg (hr.congr fun j hj => ?_) (put_lo h.lo hb), ⟨P.b3, o.B0, ht, hg⟩⟩
    unfold wrF putG
    split <;> rfl
end
structure Solo (P : Nums) (S top : Nat) (M : World → (Nat → Int) → Prop) : Prop where
  below : ∀ {W W' : World} {g : Nat → Int}, M W g → Below W.heap.size W W' → M W' g
  lo : ∀ {W : World} {g : Nat → Int}, M W g → ∀ j, 0 ≤ g j ∧ g j ≤ 255
  kept : ∀ {W W' : World} {g : Nat → Int} {b : Nat}, M W g → W.grownBy W' (some b) → top ≤ b → M W' g
  load : ∀ (a nb v e : Int) (W : World) (g : Nat → Int), M W g → u64in a → LoadIs P g a nb v e → Calls Try.prog 14 #[.pointer (some ⟨P.m, 0, none⟩), .int .u64 a, .int .i64 nb] W (GmWord.Gives W.heap.size W (.tuple #[.int .u64 v, .int .i64 e]))
  store : ∀ (a nb v e : Int) (g' : Nat → Int) (W : World) (g : Nat → Int), M W g → u64in a → u64in v → StoreIs P g a nb v g' e → Calls Try.prog 16 #[.pointer (some ⟨P.m, 0, none⟩), .int .u64 a, .int .i64 nb, .int .u64 v] W fun x W' => x = .returned (.int .i64 e) ∧ M W' g' ∧ Turned P.B top W W'
  write : ∀ (a : Int) (A : Option Addr) (N c : Nat) (gb g' : Nat → Int) (e : Int) (W : World) (g : Nat → Int), M W g → u64in a → N ≤ 2000 → (∀ j, 0 ≤ gb j ∧ gb j ≤ 255) → IsRow W W.heap.size 1 A N (fun j => .int .u8 (gb j)) → WriteIs P g a N gb g' e →
    Calls Try.prog 20 #[.pointer (some ⟨P.m, 0, none⟩), .int .u64 a, .slice A N c] W fun x W' => x = .returned (.int .i64 e) ∧ M W' g' ∧ Turned P.B top W W'
  has : ∀ (a n : Int) (W : World) (g : Nat → Int), M W g → u64in a → u64in n → Calls Try.prog 23 #[.pointer (some ⟨P.m, 0, none⟩), .int .u64 a, .int .u64 n] W (GmWord.Gives W.heap.size W (.bool (place P.r P.k a n).isSome))
  image : ∀ (W : World) (g : Nat → Int), M W g → Calls Try.prog 25 #[.pointer (some ⟨P.m, 0, none⟩)] W (ImgP S g W)

theorem solo_one {P : Nums} (o : OkS P) {top : Nat} (ht : P.b3 < top) (hm : P.m < top) (hg1 : P.g1 < top) (hA2 : ∀ ad, P.A2 = some ad → ad.block < top) : Solo P P.n3 top (One P) where
  below := One.below
  lo := fun h => h.lo
  kept := fun h hg hb => ⟨mem_kept h.mem hg (by omega) (by omega) (fun ad e => by have := hA2 ad e; omega), kept_row h.row hg (fun e => by injection e with e; omega), h.lo⟩
  load := fun a nb v e W g h ha hl => s_load o a nb v e W h ha hl
  store := fun a nb v e g' W g h ha hv hl => s_store o ht a nb v e g' W h ha hv hl
  write := fun a A N c gb g' e W g h ha hN hb hs hl => s_write o ht a A N c gb g' e W h ha hN hb hs hl
  has := fun a n W g h ha hn => has_any P.k P.m P.g1 P.b3 a n P.r W (by have := o.k16; omega) o.inr o.fits o.n3 (by have := o.n3m; omega) h.mem ha.1 ha.2 hn.1 hn.2
  image := fun W g h => (image_any P.m P.n3 P.c3 _ g W (by have := o.n3m; omega) h.mem.self h.mem.bys (IsRow.of_rowIs (c := P.n3) h.row (by have := o.n3; omega))).mono fun e W' ⟨b, he, hbb, hrow, hb⟩ => ⟨_, _, he, IsRow.of_rowIs (c := P.n3) hrow (by omega), hb⟩

structure One0 (P : Nums) (W : World) (g : Nat → Int) : Prop where
  mem : Mem0 W P.m P.g1 P.r
  lo : ∀ j, 0 ≤ g j ∧ g j ≤ 255
theorem solo_zero {P : Nums} (hk : P.k = 0) {top : Nat} (ht : P.B < top) (hm : P.m < top) (hg1 : P.g1 < top) : Solo P 0 top (One0 P) where
  below := fun h hb => ⟨h.mem.below hb, h.lo⟩
  lo := fun h => h.lo
  kept := fun h hg hb => ⟨mem_kept h.mem hg (by omega) (by omega) (fun ad e => by cases e), h.lo⟩
  load := fun a nb v e W g h ha hl => by
    unfold LoadIs at hl
    rw [hk] at hl
    rcases hl with ⟨hn, rfl, rfl⟩ | ⟨hn, hp, rfl, rfl⟩ | ⟨hn, q, hp, _⟩
    · exact load_no P.m a nb W h.mem.self hn
    · exact load0 P.m P.g1 a nb P.r W h.mem hn
    · exact (not_some hp).elim
  store := fun a nb v e g' W g h ha hv hl => by
    unfold StoreIs at hl
    rw [hk] at hl
    rcases hl with ⟨hn, rfl, rfl⟩ | ⟨hn, hp, rfl, rfl⟩ | ⟨hn, q, hp, _⟩
    · exact (store_no P.m a nb v W h.mem.self hn).mono fun x W' ⟨he, hb⟩ => ⟨he, ⟨h.mem.below hb, h.lo⟩, ⟨P.B, Nat.le_refl _, ht, only_of_below hb _⟩⟩
    · exact (store0 P.m P.g1 a nb v P.r W h.mem hn).mono fun x W' ⟨he, hb⟩ => ⟨he, ⟨h.mem.below hb, h.lo⟩, ⟨P.B, Nat.le_refl _, ht, only_of_below hb _⟩⟩
    · exact (not_some hp).elim
  write := fun a A N c gb g' e W g h ha hN hb hs hl => by
    unfold WriteIs at hl
    rw [hk] at hl
    rcases hl with ⟨rfl, rfl, rfl⟩ | ⟨hn, hp, rfl, rfl⟩ | ⟨hn, q, hp, _⟩
    · exact (write_zero P.m c A a W h.mem.self).mono fun x W' ⟨he, hb⟩ => ⟨he, ⟨h.mem.below hb, h.lo⟩, ⟨P.B, Nat.le_refl _, ht, only_of_below hb _⟩⟩
    · exact (write0 P.m P.g1 N c A a P.r W h.mem hn (by omega)).mono fun x W' ⟨he, hb⟩ => ⟨he, ⟨h.mem.below hb, h.lo⟩, ⟨P.B, Nat.le_refl _, ht, only_of_below hb _⟩⟩
    · exact (not_some hp).elim
  has := fun a n W g h ha hn => by
    rw [hk, no_place]
    exact GmNew0.has_none P.m P.g1 a n P.r W h.mem
  image := fun W g h => (image_any P.m 0 0 none g W (by decide) h.mem.self h.mem.bys none_row).mono fun e W' ⟨b, he, hbb, hrow, hb⟩ => ⟨_, _, he, none_row, hb⟩
theorem solo_new {w1 : World} {B m k : Nat} {r : Rg} (hr : Raw r k) (hg : GmTwin.Good k r) (hp : PNew w1 m k r) (hB : B ≤ m) (hm : m < w1.heap.size) :
    ∃ (P : Nums) (S : Nat) (M : World → (Nat → Int) → Prop), Solo P S w1.heap.size M ∧ P.B = B ∧ P.m = m ∧ P.k = k ∧ P.r = stR r ∧ (S : Int) = sum r k ∧ S ≤ 1048576 ∧ M w1 (fun _ => 0) := by
  have h0 : ∀ j : Nat, 0 ≤ (fun _ : Nat => (0 : Int)) j ∧ (fun _ : Nat => (0 : Int)) j ≤ 255 := fun _ => ⟨Int.le_refl 0, by show (0 : Int) ≤ 255; decide⟩
  have hsm := GmTwin.sum_most hg.2
  rcases hp with ⟨hk0, g1, b3, cc2, n3, c3, AA, hMem, h3, hc, hrow, q1, q2, q3⟩ | ⟨rfl, g1, hMem⟩
  · have hlt := hrow.lt
    refine ⟨⟨B, m, g1, b3, k, cc2, n3, c3, 0, 0, 0, k, AA, none, .slice none 0 0, [], stR r⟩, n3, _, solo_one ⟨by show B ≤ b3; omega, hg.1, in_steps hr hg.2, GmTwin.fits_steps hr h3, hc, by show n3 ≤ 1048576; omega, by show m ≠ b3; omega, by show g1 ≠ b3; omega, fun ad e => ?_⟩ hlt hm ?_ (fun ad e => ?_), rfl, rfl, rfl, rfl, h3, by omega, ⟨hMem, hrow, h0⟩⟩
    · have := (q3 ad e).2; show ad.block ≠ b3; omega
    · show g1 < w1.heap.size; omega
    · have := (q3 ad e).2; show ad.block < w1.heap.size; omega
  · refine ⟨⟨B, m, g1, 0, 0, 0, 0, 0, 0, 0, 0, 0, none, none, .slice none 0 0, [], stR r⟩, 0, _, solo_zero rfl ?_ hm hMem.lt1, rfl, rfl, rfl, rfl, rfl, by decide, ⟨hMem, h0⟩⟩
    show B < w1.heap.size
    omega

end Go.Proofs.Ytmmgcmbniidieaa.GmSolo
