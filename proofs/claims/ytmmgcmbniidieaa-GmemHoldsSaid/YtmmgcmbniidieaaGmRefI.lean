
/- The document's own memory: Image. -/
import Derived.Test.YtmmgcmbniidieaaGmRefW
namespace Go.Proofs.Ytmmgcmbniidieaa.GmRefP
open Go.RowKit Rw GmFind GmWord GmCheck GmNew GmCopyR GmRef GmRefN GmRefM SgConcat
set_option linter.unusedVariables false
set_option linter.unusedSimpArgs false

theorem bytesAt_add (g : Nat → Int) (o n m : Nat) : bytesAt g o (n + m) = bytesAt g o n ++ bytesAt g (o + n) m := by
  unfold bytesAt
  rw [List.range_add, List.map_append, List.map_map]
  congr 1
  refine List.map_congr_left fun j _ => ?_
  simp only [Function.comp_apply, Nat.add_assoc]
theorem bytesAt_len (g : Nat → Int) (o n : Nat) : (bytesAt g o n).length = n := by simp [bytesAt]
theorem bytesAt_get {g : Nat → Int} {o n j : Nat} {u : Value} (h : (u8s (bytesAt g o n))[j]? = some u) : j < n ∧ u = .int .u8 (g (o + j)) := by
  unfold u8s bytesAt at h
  simp only [List.getElem?_map, Option.map_eq_some_iff] at h
  obtain ⟨z, ⟨q, hq, rfl⟩, rfl⟩ := h
  obtain ⟨hq1, hq2⟩ := List.getElem?_eq_some_iff.1 hq
  simp at hq1 hq2
  subst hq2
  exact ⟨hq1, rfl⟩

set_option maxRecDepth 100000 in
set_option maxHeartbeats 4000000 in
theorem r_image {mm k c : Nat} {A : Option Addr} {r : Rg} {x : Value} {ps : List (Nat × Nat)} {g : Nat → Int} (S : Nat) (w : World) (h : RM w mm k c A (stR r) x ps g) (hS : sum r k = S) (hS1 : S ≤ 1048576) :
    Calls Try.prog 26 #[.pointer (some ⟨mm, 0, none⟩)] w fun e w' => ∃ (A' : Option Addr) (c' : Nat), e = .returned (.slice A' S c') ∧ w'.ownsRow w.heap.size 5 1 (.slice A' S c') S (u8s (bytesAt g 0 S)) ∧ Below w.heap.size w w' := by
  have hb0 : Below w.heap.size w w := Below.refl _ _
  obtain ⟨i0, hi0, hz0, hz1, hz2⟩ := GmNew.u8info
  have H0 := Lib.hid hi0
  have H1 := Lib.hid hz0
  have H2 := Lib.hid hz1
  have H3 := Lib.hid hz2
  obtain ⟨A3, c3, rfl⟩ : ∃ A3 c3, x = .slice A3 k c3 := by obtain ⟨B, ho⟩ := h.own; exact own_slice ho
  have H := Lib.hid h
  have HS := Lib.hid hS
  have k1 := H.out.k1
  have hRw : Raw r k := fun i hi => h.raw i hi
  have HR := Lib.hid hRw
  clear h hS hi0 hz0 hz1 hz2 hRw
  go_enter Try.func26, Try.ntmps26
  go_wp2_with fail
  go_loopw [3, 4] (fun v y wr => ∃ (j n c5 : Nat) (A5 : Option Addr), j ≤ k ∧ sum r j = n ∧ n ≤ S ∧ v = .slice A5 n c5 ∧ y = .int .i64 j ∧ wr.ownsRow w.heap.size 5 1 (.slice A5 n c5) n (u8s (bytesAt g 0 n)) ∧ Below w.heap.size w wr) (fun v y wr => k - (intOf y).toNat)
  case atStart => exact ⟨0, 0, 0, none, by omega, rfl, by omega, rfl, rfl, ⟨rfl, .inl ⟨rfl, rfl⟩⟩, Below.refl _ _⟩
  case round =>
    obtain ⟨j, n, c5, A5, hj, hn, hnS, rfl, rfl, hown, hb⟩ := hrel
    have hwz := hb.size
    have m2 : wr.cell? ⟨mm, 1, none⟩ = some (.slice A3 k c3) := (hb.cell (p := ⟨mm, 1, none⟩) H.out.two.lt).trans (H.out.two.cell (i := 1) (by decide))
    by_cases hlt : j < k
    · obtain ⟨G, b, c4, hxe, hGl, hps, hc⟩ := H.out.part2 hlt
      obtain ⟨rfl, rfl⟩ : A3 = some ⟨G, 0, none⟩ ∧ c3 = c4 := by injection hxe with e1 _ e2; exact ⟨e1, e2⟩
      obtain ⟨L, hL⟩ : ∃ L : Nat, (r.len j).toNat = L := ⟨_, rfl⟩
      have hc' : w.cell? ⟨G, j, none⟩ = some (.slice (some ⟨b, 0, none⟩) L L) := by rw [← hL]; exact hc
      have hrow : w.rowIs b 5 L (fun q => .int .u8 (g (n + q))) := by
        have := H.out.row j _ hps
        have e : ((stR r).st j).toNat = n := by show (sum r j).toNat = n; omega
        rw [e] at this
        rw [← hL]
        exact this
      have mc := (hb.cell (p := ⟨G, j, none⟩) hGl).trans hc'
      obtain ⟨r1, r2, r3, r4⟩ := HR.out j hlt
      have hsj : sum r (j + 1) = (n : Int) + r.len j := by show sum r j + r.len j = _; omega
      have hsj2 : sum r (j + 1) = ((n + L : Nat) : Int) := by omega
      have hle : n + L ≤ S := by
        rcases Nat.lt_or_ge (j + 1) k with h1 | h1
        · have := sum_up HR.out (Nat.le_refl k) h1
          have := (HR.out (j + 1) h1).2.2.1
          have := HS.out
          omega
        · obtain rfl : j + 1 = k := by omega
          have := HS.out
          omega
      have HNW := Lib.hid (show ∀ q u, (u8s (bytesAt g n L))[q]? = some u → wr.cell? ((⟨b, 0, none⟩ : Addr).add q) = some u from fun q u hq => by
        obtain ⟨h1, rfl⟩ := bytesAt_get hq
        have e : ((⟨b, 0, none⟩ : Addr).add q) = ⟨b, q, none⟩ := by unfold Addr.add; split <;> simp_all
        rw [e]
        exact (hrow.of_block (hb.block b hrow.lt)).cell h1)
      have HLN := Lib.hid (show (u8s (bytesAt g n L)).length = L * 1 from by simp [u8s, bytesAt])
      have HO := Lib.hid hown
      have HB := Lib.hid hb
      have HSJ := Lib.hid hsj2
      have x2 : (j : Int) < (k : Int) := by omega
      have f1 : decide ((j : Int) < (k : Int)) = true := decide_eq_true x2
      clear hc hc' hrow hown hb hps hxe hn hsj hsj2 hL r1 r2 r3 r4
      go_wp2_with (at_builtin; refine wpList_append_own _ rfl _ _ 37 rfl w.heap.size 5 i0 (.int .u8 0) 1 1 Try.underlying37 H0.out H1.out H2.out H3.out rfl (by decide) (.slice A5 n c5) n (u8s (bytesAt g 0 n)) rfl HO.out ⟨b, 0, none⟩ L L (u8s (bytesAt g n L)) rfl HLN.out HNW.out (u8s_one _) (by unfold maxLen; omega) (by omega) hwz ?_)
      intro v' W2 hown' hg' _
      have hown2 : W2.ownsRow w.heap.size 5 1 v' (n + L) (u8s (bytesAt g 0 (n + L))) := by
        rw [bytesAt_add, u8s_append, Nat.zero_add]
        exact hown'
      obtain ⟨A6, c6, rfl⟩ := own_slice hown2
      have hb2 : Below w.heap.size w W2 := HB.out.grown hg' hwz (fun q e => own_block HO.out q e)
      have HH := Lib.hid (And.intro hown2 hb2)
      clear hown' hg' hown2 hb2 mc m2
      go_wp2_with fail
      go_roundw
      case rel => exact ⟨j + 1, n + L, c6, A6, by omega, HSJ.out, hle, rfl, by go_num, HH.out.1, HH.out.2⟩
      case measure => simp [intOf]; omega
    · obtain rfl : j = k := by omega
      obtain rfl : n = S := by have := HS.out; omega
      have f1 : decide ((j : Int) < (j : Int)) = false := decide_eq_false (by omega)
      go_wp2_with fail
      go_ret
      exact ⟨A5, c5, rfl, hown, hb⟩
end Go.Proofs.Ytmmgcmbniidieaa.GmRefP
