/- The document's own tables of descriptors. -/
import Derived.Test.YtkncaafjkoeijaaDesR2
namespace Go.Proofs.Ytkncaafjkoeijaa.DesR3
open Go.RowKit Rw Le DesPut DesRead DesTab DesRT DesR1 DesR2
open Go.Proofs.Ytkncaafjkoeijaa.Own (own_slice own_block own_ne)
set_option linter.unusedVariables false
set_option linter.unusedSimpArgs false

theorem grown_of {W W' : World} (hb : Below W.heap.size W W') : W.grownBy W' none := ⟨hb.os, hb.tape, hb.output, hb.size, fun k hk _ => hb.block k hk⟩
/-- A slice of its own that is not empty. -/
theorem own_some {w : World} {B N c : Nat} {e : TypeId} {size : Nat} {A : Option Addr} {xs : List Value} (h : w.ownsRow B e size (.slice A N c) N xs) (h0 : 0 < N) : ∃ ad, A = some ad ∧ ad.block < w.heap.size ∧ ∀ j, j < N * size → w.cell? (ad.add j) = some (xs.getD j undef) :=
  IsRow.of_own h h0

set_option maxRecDepth 100000 in
set_option maxHeartbeats 4000000 in
theorem r_table (A : Option Addr) (n c : Nat) (d : D4) (w : World) (hn : n ≤ 100000) (hd : d.In n) (hr : IsRow w w.heap.size 4 A n d.cell) :
    Calls Try.prog 55 #[.slice A n c] w fun e w' => ∃ (A' : Option Addr) (c' : Nat), e = .returned (.slice A' (16 * n) c') ∧ w'.ownsRow w.heap.size 5 1 (.slice A' (16 * n) c') (16 * n) (d.row n) ∧ Below w.heap.size w w' := by
  obtain ⟨i0, hi, hz0, hz1, hz2⟩ := info_parts u8info
  have H0 := Lib.hid hi
  have H1 := Lib.hid hz0
  have H2 := Lib.hid hz1
  have H3 := Lib.hid hz2
  have HR := Lib.hid hr
  have HD := Lib.hid hd
  clear hi hz0 hz1 hz2 hr hd
  go_enter Try.func55, Try.ntmps55
  go_wp2_with fail
  go_loopw [3, 4] (fun s i wr => ∃ (k : Nat) (A' : Option Addr) (c' : Nat), k ≤ n ∧ i = .int .i64 k ∧ s = .slice A' (16 * k) c' ∧ wr.ownsRow w.heap.size 5 1 (.slice A' (16 * k) c') (16 * k) (d.row k) ∧ Below w.heap.size w wr) (fun s i wr => n - (intOf i).toNat)
  case atStart => exact ⟨0, none, 0, by omega, rfl, rfl, ⟨rfl, .inl ⟨rfl, rfl⟩⟩, Below.refl _ _⟩
  case round =>
    obtain ⟨k, A', c', hk, rfl, rfl, ho, hb⟩ := hrel
    have hsz := hb.size
    by_cases hlt : k < n
    · obtain ⟨ad, rfl, hbl, hcell⟩ := HR.out (by omega)
      have hcw : ∀ j, j < n * 4 → wr.cell? (ad.add j) = some (d.cell j) := fun j hj => (hb.cell (p := ad.add j) (by rw [block_of_add]; exact hbl)).trans (hcell j hj)
      have c0 : wr.cell? (ad.add (k * 4)) = some (.int .u64 (d.a k)) := (el0 hcw hlt (by omega)).trans (by rw [D4.cell0])
      have c1 : wr.cell? ⟨(ad.add (k * 4)).block, (ad.add (k * 4)).off + 1, none⟩ = some (.int .u32 (d.l k)) := (elj hcw hlt 1 (by omega) (by omega)).trans (by rw [D4.cell1])
      have c2 : wr.cell? ⟨(ad.add (k * 4)).block, (ad.add (k * 4)).off + 2, none⟩ = some (.int .u16 (d.f k)) := (elj hcw hlt 2 (by omega) (by omega)).trans (by rw [D4.cell2])
      have c3 : wr.cell? ⟨(ad.add (k * 4)).block, (ad.add (k * 4)).off + 3, none⟩ = some (.int .u16 (d.x k)) := (elj hcw hlt 3 (by omega) (by omega)).trans (by rw [D4.cell3])
      have HOk := Lib.hid ho
      clear hcw hcell ho
      go_wp2_with fail
      clear c0 c1 c2 c3
      refine (r_bytes (d.a k) (d.l k) (d.f k) (d.x k) (HD.out k hlt) _).mono ?_
      rintro e W2 ⟨v2, rfl, ho2, hg2⟩
      obtain ⟨A2, c2', rfl⟩ := own_slice ho2
      obtain ⟨a2, rfl, hlt2, hc2⟩ := own_some ho2 (by decide)
      have HN2 := Lib.hid (show ∀ j u, ((List.range 16).map (u8F (descG (d.a k) (d.l k) (d.f k) (d.x k))))[j]? = some u → W2.cell? (a2.add j) = some u from by
        intro j u hu
        have hj : j < 16 := by have := (List.getElem?_eq_some_iff.1 hu).1; simpa using this
        rw [hc2 j (by omega), List.getD_eq_getElem?_getD, hu]
        rfl)
      have HO3 := Lib.hid (own_ne HOk.out (grown_of hg2) (fun b e => by cases e))
      have hb2 := hb.trans (hg2.mono hsz)
      have hs2 := hg2.size
      clear hc2 ho2
      go_wp2_with (at_builtin; refine wpList_append_own _ rfl _ _ 37 rfl w.heap.size 5 i0 (.int .u8 0) 1 1 Try.underlying37 H0.out H1.out H2.out H3.out rfl (by decide) (.slice A' (16 * k) c') (16 * k) (d.row k) rfl HO3.out a2 16 c2' ((List.range 16).map (u8F (descG (d.a k) (d.l k) (d.f k) (d.x k)))) rfl rfl HN2.out (by simp [u8F, Value.oneCell']) (by unfold maxLen; omega) (by omega) (by omega) ?_)
      intro v7 W4 hown4 hg4 _
      obtain ⟨A4, C4, rfl⟩ := own_slice hown4
      have hbk : ∀ g, (Value.slice A' (16 * k) c').ownBlock = some g → w.heap.size ≤ g := own_block HOk.out
      have hb4 : Below w.heap.size w W4 := hb2.grown hg4 (by omega) hbk
      have H6 := Lib.hid (And.intro hown4 hb4)
      clear hown4 hg4 hb4
      go_wp2_with fail
      go_roundw
      case rel => exact ⟨k + 1, A4, C4, by omega, by go_num, rfl, by rw [D4.row_succ]; exact H6.out.1, H6.out.2⟩
      case measure => simp [intOf]; omega
    · obtain rfl : k = n := by omega
      have HH := Lib.hid (And.intro ho hb)
      clear ho hb
      go_wp2_with fail
      go_ret
      exact ⟨_, _, rfl, HH.out.1, HH.out.2⟩

theorem r_rtable_bad (A : Option Addr) (n c : Nat) (w : World) (hn : n % 16 ≠ 0) (hn2 : n ≤ 9223372036854775807) : Calls Try.prog 40 #[.slice A n c] w (Gives w.heap.size w (.tuple #[.slice none 0 0, .int .i64 4])) := by
  unfold Gives
  have e1 : (n : Int).tmod 16 = (n : Int) % 16 := Int.tmod_eq_emod_of_nonneg (by omega)
  have h : ((n : Int) % 16 != 0) = true := by simpa using (show ¬ (n : Int) % 16 = 0 by omega)
  go_enter Try.func40, Try.ntmps40
  go_wp2
  go_returns
  exact ⟨rfl, by go_grown⟩

theorem Dinfo' : ∃ i, Try.prog.info? 62 = some i ∧ i.zero = some (.agg #[.int .u64 0, .int .u32 0, .int .u16 0, .int .u16 0]) ∧ i.size = 4 ∧ i.bytes = 16 := info_parts Dinfo

set_option maxRecDepth 100000 in
set_option maxHeartbeats 8000000 in
theorem r_rtable (A : Option Addr) (N c : Nat) (g : Nat → Int) (w : World) (hN : N ≤ 10000) (hc : 16 * N ≤ c) (hc2 : c ≤ maxLen) (hg : Bytes g (16 * N)) (hr : IsRow w w.heap.size 1 A (16 * N) (u8F g)) :
    Calls Try.prog 40 #[.slice A (16 * N) c] w fun e w' => ∃ (A' : Option Addr) (c' : Nat), e = .returned (.tuple #[.slice A' N c', .int .i64 0]) ∧ w'.ownsRow w.heap.size 62 4 (.slice A' N c') N (D4.rows (tabD g) N) ∧ Below w.heap.size w w' := by
  obtain ⟨i0, hi, hz0, hz1, hz2⟩ := Dinfo'
  have H0 := Lib.hid hi
  have H1 := Lib.hid hz0
  have H2 := Lib.hid hz1
  have H3 := Lib.hid hz2
  have HR := Lib.hid hr
  have HG := Lib.hid hg
  have e1 : ((16 * N : Nat) : Int).tmod 16 = 0 := by rw [Int.tmod_eq_emod_of_nonneg (by omega)]; omega
  clear hi hz0 hz1 hz2 hr hg
  go_enter Try.func40, Try.ntmps40
  go_wp2_with fail
  go_loopw [4, 5] (fun s i wr => ∃ (k : Nat) (A' : Option Addr) (c' : Nat), k ≤ N ∧ i = .int .i64 ((16 * k : Nat) : Int) ∧ s = .slice A' k c' ∧ wr.ownsRow w.heap.size 62 4 (.slice A' k c') k (D4.rows (tabD g) k) ∧ Below w.heap.size w wr) (fun s i wr => 16 * N - (intOf i).toNat)
  case atStart => exact ⟨0, none, 0, by omega, rfl, rfl, ⟨rfl, .inl ⟨rfl, rfl⟩⟩, Below.refl _ _⟩
  case round =>
    obtain ⟨k, A', c', hk, rfl, rfl, ho, hb⟩ := hrel
    have hsz := hb.size
    by_cases hlt : k < N
    · obtain ⟨ad, rfl, hbl, hcell⟩ := HR.out (by omega)
      have hrow : IsRow wr w.heap.size 1 (some (ad.add (16 * k))) 16 (u8F fun j => g (16 * k + j)) := fun _ => ⟨_, rfl, by rw [block_of_add]; exact hbl, fun j hj => by rw [add_of_add]; exact (hb.cell (p := ad.add (16 * k + j)) (by rw [block_of_add]; exact hbl)).trans (hcell _ (by omega))⟩
      have hg16 : Bytes (fun j => g (16 * k + j)) 16 := fun j hj => HG.out _ (by omega)
      have HR16 := Lib.hid (hrow.more hsz)
      have HG16 := Lib.hid hg16
      have HOk := Lib.hid (And.intro ho hb)
      clear hrow hg16 hcell ho hb
      go_wp2_with fail
      refine (r_read_is (ad.add (16 * k)) (c - 16 * k) (fun j => g (16 * k + j)) _ HG16.out HR16.out).mono ?_
      rintro e W2 ⟨rfl, hB2⟩
      obtain ⟨ho, hb⟩ := HOk.out
      have ho2 := own_ne ho (grown_of hB2) (fun b e => by cases e)
      have hs2 := hB2.size
      have hb2 := hb.trans (hB2.mono hsz)
      let D : Obj := .cells #[.int .u64 ((tabD g).a k), .int .u32 ((tabD g).l k), .int .u16 ((tabD g).f k), .int .u16 ((tabD g).x k)] 62
      have HO3 := Lib.hid ((ho2.alloc D).alloc D)
      have HN := Lib.hid (cells4 (W2.alloc D) (.int .u64 ((tabD g).a k)) (.int .u32 ((tabD g).l k)) (.int .u16 ((tabD g).f k)) (.int .u16 ((tabD g).x k)) 62)
      have hb3 : Below w.heap.size w ((W2.alloc D).alloc D) := (hb2.alloc (by omega) _).alloc (by simp; omega) _
      have HB3 := Lib.hid hb3
      clear hB2 ho2 hb2 ho hb HOk hb3
      go_wp2_with (at_builtin; refine wpList_append_own _ rfl _ _ 65 rfl w.heap.size 62 i0 (.agg #[.int .u64 0, .int .u32 0, .int .u16 0, .int .u16 0]) 4 16 Try.underlying65 H0.out H1.out H2.out H3.out rfl (by decide) (.slice A' k c') k (D4.rows (tabD g) k) rfl HO3.out ⟨(W2.alloc D).heap.size, 0, none⟩ 1 1 [.int .u64 ((tabD g).a k), .int .u32 ((tabD g).l k), .int .u16 ((tabD g).f k), .int .u16 ((tabD g).x k)] (by simp only [World.size_alloc]; rfl) rfl HN.out (by simp [Value.oneCell']) (by unfold maxLen; omega) (by omega) (by simp only [World.size_alloc]; omega) ?_)
      intro v7 W4 hown4 hg4 _
      obtain ⟨A4, C4, rfl⟩ := own_slice hown4
      have hbk : ∀ g, (Value.slice A' k c').ownBlock = some g → w.heap.size ≤ g := own_block HO3.out
      have hb4 : Below w.heap.size w W4 := HB3.out.grown hg4 (by simp only [World.size_alloc]; omega) hbk
      have H6 := Lib.hid (And.intro hown4 hb4)
      clear hown4 hg4 hb4
      go_wp2_with fail
      go_roundw
      case rel => exact ⟨k + 1, A4, C4, by omega, by go_num, rfl, by rw [rows_succ]; exact H6.out.1, H6.out.2⟩
      case measure => simp [intOf]; omega
    · obtain rfl : k = N := by omega
      have HH := Lib.hid (And.intro ho hb)
      clear ho hb
      go_wp2_with fail
      go_returns
      exact ⟨_, _, rfl, HH.out.1, HH.out.2⟩

end Go.Proofs.Ytkncaafjkoeijaa.DesR3
