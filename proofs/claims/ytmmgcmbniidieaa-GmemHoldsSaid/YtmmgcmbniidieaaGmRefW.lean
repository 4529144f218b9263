
/- The document's own memory: Write. -/
import Derived.Test.YtmmgcmbniidieaaGmRefP
import Derived.Test.YtmmgcmbniidieaaGmWrite
namespace Go.Proofs.Ytmmgcmbniidieaa.GmRefP
open Go.RowKit Rw GmFind GmWord GmCheck GmNew GmCopyR GmRef GmRefN GmRefM SgConcat
set_option linter.unusedVariables false
set_option linter.unusedSimpArgs false

theorem row_ty {W : World} {b n n' : Nat} {t t' : TypeId} {f f' : Nat → Value} (h : W.rowIs b t n f) (h' : W.rowIs b t' n' f') : t = t' := by
  obtain ⟨c, h1, _⟩ := h
  obtain ⟨c', h2, _⟩ := h'
  rw [h1] at h2
  injection h2 with h2
  injection h2
/-- Bytes with others in their place. -/
def putG (g : Nat → Int) (o n : Nat) (gb : Nat → Int) : Nat → Int := fun q => if o ≤ q ∧ q < o + n then gb (q - o) else g q
section
variable {W W' : World} {mm k c : Nat} {A : Option Addr} {r : Rg} {x : Value} {ps : List (Nat × Nat)} {g : Nat → Int}
theorem RM.size (h : RM W mm k c A r x ps g) : ps.length = k := by have := congrArg List.length h.len; simpa [lens] using this
theorem RM.at (h : RM W mm k c A r x ps g) {i : Nat} {p : Nat × Nat} (hp : ps[i]? = some p) : i < k ∧ p.2 = (r.len i).toNat := by
  have hi : i < k := by rw [← h.size]; exact (List.getElem?_eq_some_iff.1 hp).1
  refine ⟨hi, ?_⟩
  have := congrArg (fun l => l[i]?) h.len
  simp only [List.getElem?_map, hp, lens, Option.map_some] at this
  rw [List.getElem?_range hi] at this
  simpa using this
theorem RM.wrote (h : RM W mm k c A r x ps g) {i P N : Nat} {p : Nat × Nat} (hp : ps[i]? = some p) (hPN : P + N ≤ p.2) (gb : Nat → Int) (hg : W.grownBy W' (some p.1))
    (hrow : W'.rowIs p.1 5 p.2 (fun j => if P ≤ j ∧ j < P + N then .int .u8 (gb (j - P)) else .int .u8 (g ((r.st i).toNat + j)))) : RM W' mm k c A r x ps (putG g ((r.st i).toNat + P) N gb) := by
  obtain ⟨hi, hp2⟩ := h.at hp
  have hpr := h.row i p hp
  have s0 := h.st0 i hi
  obtain ⟨B, ho⟩ := h.own
  refine ⟨h.k1, h.raw, h.rin, h.len1, h.st0, kept_row h.two hg (fun e => ?_), fun hn => ?_, ⟨B, ho.kept hg (.inr (own_ty ho hpr))⟩, h.len, fun i' p' hp' => ?_, h.nd, h.ap, h.up⟩
  · injection e with e
    rw [e] at hpr
    exact absurd (row_ty h.two hpr) (by decide)
  · obtain ⟨ad, e, hlt, hc⟩ := h.lst hn
    refine ⟨ad, e, Nat.lt_of_lt_of_le hlt hg.size, fun j hj => (World.cell?_of_block (hg.block _ (by rw [block_of_add]; exact hlt) (fun e' => ?_))).trans (hc j hj)⟩
    rw [block_of_add] at e'
    injection e' with e'
    exact h.ap p (List.mem_of_getElem? hp) ad e e'
  · obtain ⟨hi', hp2'⟩ := h.at hp'
    have s1 := h.st0 i' hi'
    by_cases he : i' = i
    · subst he
      obtain rfl : p' = p := by rw [hp] at hp'; injection hp' with hp'; exact hp'.symm
      refine hrow.congr fun j hj => ?_
      unfold putG
      by_cases hc : P ≤ j ∧ j < P + N
      · rw [if_pos hc, if_pos (by omega)]
        congr 2
        omega
      · rw [if_neg hc, if_neg (by omega)]
    · have hne : p'.1 ≠ p.1 := fun e => he (by
        have hnd := h.nd
        have h1 : (ps.map (·.1))[i']? = some p'.1 := by rw [List.getElem?_map, hp']; rfl
        have h2 : (ps.map (·.1))[i]? = some p'.1 := by rw [List.getElem?_map, hp, e]; rfl
        exact (List.getElem?_inj (by rw [List.length_map, h.size]; exact hi') hnd).1 (h1.trans h2.symm))
      refine (kept_row (h.row i' p' hp') hg (fun e => hne (by injection e with e; exact e.symm))).congr fun j hj => ?_
      unfold putG
      rw [if_neg]
      intro hc
      rcases Nat.lt_or_ge i' i with hl | hl
      · have := h.up i' i hl hi
        omega
      · have := h.up i i' (by omega) hi'
        omega
end
/-- Part i, its block named by the list of parts. -/
theorem RM.part2 {W : World} {mm k c : Nat} {A : Option Addr} {r : Rg} {x : Value} {ps : List (Nat × Nat)} {g : Nat → Int} (h : RM W mm k c A r x ps g) {i : Nat} (hi : i < k) : ∃ G b c3, x = .slice (some ⟨G, 0, none⟩) k c3 ∧ G < W.heap.size ∧ ps[i]? = some (b, (r.len i).toNat) ∧ W.cell? ⟨G, i, none⟩ = some (.slice (some ⟨b, 0, none⟩) (r.len i).toNat (r.len i).toNat) := by
  obtain ⟨B, hown⟩ := h.own
  obtain ⟨p, hp⟩ : ∃ p, ps[i]? = some p := ⟨_, List.getElem?_eq_getElem (by rw [h.size]; exact hi)⟩
  obtain ⟨_, h2⟩ := h.at hp
  obtain ⟨A3, c3, rfl⟩ := own_slice hown
  rcases hown.2 with ⟨_, h0⟩ | ⟨G, cap, cur, he, _⟩
  · omega
  · obtain ⟨rfl, rfl⟩ : A3 = some ⟨G, 0, none⟩ ∧ c3 = cap := by injection he with e1 _ e2; exact ⟨e1, e2⟩
    refine ⟨G, p.1, c3, rfl, (hown.lt G rfl).2, by rw [hp, ← h2], ?_⟩
    rw [hown.cellAt i (by omega), List.getElem?_map, hp]
    simp [sl, h2]

set_option maxRecDepth 100000 in
set_option maxHeartbeats 4000000 in
theorem r_write_ok {mm k c : Nat} {A : Option Addr} {r : Rg} {x : Value} {ps : List (Nat × Nat)} {g : Nat → Int} (a : Int) (N o cb : Nat) (AB : Option Addr) (gb : Nat → Int) (w : World) (h : RM w mm k c A r x ps g) (ha : 0 ≤ a ∧ a ≤ 18446744073709551615) (hn : 0 < N ∧ N ≤ 1048576) (hp : place r k a N = some o)
    (hsrc : IsRow w w.heap.size 1 AB N (fun j => .int .u8 (gb j))) :
    Calls Try.prog 22 #[.pointer (some ⟨mm, 0, none⟩), .int .u64 a, .slice AB N cb] w fun e w' => e = .returned (.int .i64 0) ∧ RM w' mm k c A r x ps (putG g o N gb) ∧ ∃ p ∈ ps, w.grownBy w' (some p.1) := by
  have HF := Lib.hid (h.find ha (n := N) (by omega))
  have HY := Lib.hid (show ∀ i, i < k → inR r a N i → o = (r.st i + (a - r.at_ i)).toNat from fun i hi hin => by have := place_at h.rin hi hin; rw [hp] at this; injection this)
  have HX := Lib.hid (show ∃ i, i < k ∧ inR r a N i from (place_inR h.rin).1 (by rw [hp]; rfl))
  have H := Lib.hid h
  have f1 : decide ((N : Int) = (0 : Int)) = false := decide_eq_false (by omega)
  have f2 : IntKind.u64.wrap (N : Int) = N := by rw [IntKind.wrap_u64]; omega
  have HSR := Lib.hid hsrc
  clear h hp hsrc
  go_enter Try.func22, Try.ntmps22
  go_wp2_with fail
  refine HF.out.mono ?_
  rintro e W ⟨hb, ⟨i, hi, hin, _, rfl⟩ | ⟨hno, rfl⟩⟩
  · obtain ⟨G, b, c3, hxe, hGl, hps, hc⟩ := H.out.part2 hi
    have s0 := H.out.st0 i hi
    have l1 := H.out.len1 i hi
    obtain ⟨r1, r2, r3, r4⟩ := H.out.raw i hi
    have eo := HY.out i hi hin
    obtain ⟨d1, d2, d3, d4⟩ := hin
    obtain ⟨P, hP⟩ : ∃ P : Nat, a - r.at_ i = P := ⟨(a - r.at_ i).toNat, by omega⟩
    obtain ⟨L, hL⟩ : ∃ L : Nat, (r.len i).toNat = L := ⟨_, rfl⟩
    have hPL : P + N ≤ L := by omega
    have hLL : L ≤ 1048576 := by omega
    rw [hL] at hc hps
    rw [hP]
    have EO := Lib.hid (show o = (r.st i).toNat + P by omega)
    have m2 : W.cell? ⟨mm, 1, none⟩ = some (.slice (some ⟨G, 0, none⟩) k c3) := by
      have := (hb.cell (p := ⟨mm, 1, none⟩) H.out.two.lt).trans (H.out.two.cell (i := 1) (by decide))
      rw [← hxe]; exact this
    have mc := (hb.cell (p := ⟨G, i, none⟩) hGl).trans hc
    have HR := Lib.hid (H.out.row i _ hps)
    have hrow1 := HR.out.of_block (hb.block b HR.out.lt)
    obtain ⟨cur, hh, hsz, hcur⟩ := hrow1
    obtain ⟨ad, rfl, had, hcc⟩ := HSR.out (by omega)
    obtain ⟨cs, hcs⟩ : ∃ cs : List Value, (List.range N).map (fun j => Value.int .u8 (gb j)) = cs := ⟨_, rfl⟩
    have hlen : cs.length = N := by rw [← hcs]; simp
    have HCS := Lib.hid hcs
    have E1 := Lib.hid (show (Try.prog.info? 5).map (·.size) = some 1 from by kernel_rfl)
    have E2 := Lib.hid hh
    have E3 := Lib.hid (show cs.length = Nat.min N (L - P) from by rw [hlen]; exact (Nat.min_eq_left (by omega)).symm)
    have E4 := Lib.hid (show P + cs.length ≤ cur.size from by rw [hlen, hsz]; exact hPL)
    have E5 := Lib.hid (show ∀ v ∈ cs, v.oneCell' = true from by
      intro v hv
      rw [← HCS.out] at hv
      obtain ⟨q, _, rfl⟩ := List.mem_map.1 hv
      rfl)
    have E6 := Lib.hid (show ∀ j v, cs[j]? = some v → W.cell? (ad.add j) = some v from by
      intro j v hj
      rw [← HCS.out] at hj
      simp only [List.getElem?_map, Option.map_eq_some_iff] at hj
      obtain ⟨q, hq, rfl⟩ := hj
      obtain ⟨hq1, hq2⟩ := List.getElem?_eq_some_iff.1 hq
      simp at hq1 hq2
      subst hq2
      exact (hb.cell (p := ad.add j) (show (ad.add j).block < _ from by rw [block_of_add]; exact had)).trans (hcc j (by omega)))
    have HCU := Lib.hid hcur
    have HPS := Lib.hid hps
    have HBB := Lib.hid (only_of_below hb (some b))
    have HSZ := Lib.hid hsz
    have HLE := Lib.hid hlen
    have hLP : ¬ L = P := by omega
    have x1 : (0 : Int) ≤ (P : Int) ∧ (P : Int) ≤ (L : Int) := by omega
    have x2 : (i : Int) < (k : Int) := by omega
    have f3 : decide ((i : Int) < (0 : Int)) = false := decide_eq_false (by omega)
    clear hcs hcc hb hh hcur hsz hlen hc eo d1 d2 d3 d4 r1 r2 r3 r4 s0 l1 hxe hps
    go_wp2_with (refine wpList_copy_own rfl _ _ 37 37 rfl 5 Try.underlying37 E1.out b P (L - P) (L - P) ad N cb rfl rfl cur 5 E2.out cs E3.out E6.out E4.out E5.out ?_)
    go_ret
    have hcl := HLE.out
    have hcz := HSZ.out
    have hg1 := HBB.out
    have hgw : w.grownBy (W.setRow b (cur.toList.take P ++ (cs ++ cur.toList.drop (P + cs.length))).toArray) (some b) :=
      ⟨hg1.os, hg1.tape, hg1.output, by simpa [World.setRow] using hg1.size, fun k hk hne => (setRow_other _ _ _ _ (by rintro rfl; exact hne rfl)).trans (hg1.block k hk hne)⟩
    refine ⟨rfl, ?_, (b, L), List.mem_of_getElem? HPS.out, hgw⟩
    rw [EO.out]
    refine H.out.wrote HPS.out hPL gb hgw ⟨(cur.toList.take P ++ (cs ++ cur.toList.drop (P + cs.length))).toArray, setRow_heap _ _ _ _ _ _ E2.out, ?_, fun q hq => ?_⟩
    · have := E4.out
      rw [List.size_toArray]
      simp only [List.length_append, List.length_take, List.length_drop, Array.length_toList]
      show _ = L
      have hcz' : cur.size = L := hcz
      omega
    · have h4 := E4.out
      have hcz' : cur.size = L := hcz
      have hq' : q < L := hq
      have hcn : cur.toList.length = L := by rw [Array.length_toList]; exact hcz
      rw [List.getElem?_toArray]
      show _ = some (if P ≤ q ∧ q < P + N then Value.int .u8 (gb (q - P)) else Value.int .u8 (g ((r.st i).toNat + q)))
      by_cases h1 : q < P
      · rw [List.getElem?_append_left (by rw [List.length_take, hcn]; omega), List.getElem?_take, if_pos h1, if_neg (by omega)]
        rw [Array.getElem?_toList]
        exact HCU.out q hq
      · rw [List.getElem?_append_right (by rw [List.length_take, hcn]; omega), List.length_take, hcn, Nat.min_eq_left (by omega)]
        by_cases h2 : q < P + N
        · rw [List.getElem?_append_left (by omega), if_pos (by omega), ← HCS.out]
          rw [List.getElem?_map, List.getElem?_range (by omega)]
          rfl
        · rw [List.getElem?_append_right (by omega), List.getElem?_drop, if_neg (by omega), Array.getElem?_toList, show P + cs.length + (q - P - cs.length) = q from by omega]
          exact HCU.out q hq
  · obtain ⟨i, hi, hin⟩ := HX.out
    exact absurd hin (hno i hi)

set_option maxRecDepth 100000 in
theorem r_write_zero (v : Value) (a : Int) (AB : Option Addr) (cb : Nat) (w : World) : Calls Try.prog 22 #[v, .int .u64 a, .slice AB 0 cb] w (GmWord.Gives w.heap.size w (.int .i64 0)) := by
  unfold GmWord.Gives
  go_enter Try.func22, Try.ntmps22
  go_wp2_with fail
  go_ret
  exact ⟨rfl, by go_grown⟩
set_option maxRecDepth 100000 in
set_option maxHeartbeats 2000000 in
theorem r_write_no {mm k c : Nat} {A : Option Addr} {r : Rg} {x : Value} {ps : List (Nat × Nat)} {g : Nat → Int} (a : Int) (N cb : Nat) (AB : Option Addr) (w : World) (h : RM w mm k c A r x ps g) (ha : 0 ≤ a ∧ a ≤ 18446744073709551615) (hn : 0 < N ∧ N ≤ 9223372036854775807) (hp : place r k a N = none) :
    Calls Try.prog 22 #[.pointer (some ⟨mm, 0, none⟩), .int .u64 a, .slice AB N cb] w (GmWord.Gives w.heap.size w (.int .i64 5)) := by
  unfold GmWord.Gives
  have HF := Lib.hid (h.find ha (n := N) (by omega))
  have HP := Lib.hid (show ∀ i, i < k → ¬ inR r a N i from fun i hi hin => by have := place_at h.rin hi hin; rw [hp] at this; cases this)
  have f1 : decide ((N : Int) = (0 : Int)) = false := decide_eq_false (by omega)
  have f2 : IntKind.u64.wrap (N : Int) = N := by rw [IntKind.wrap_u64]; omega
  clear h hp
  go_enter Try.func22, Try.ntmps22
  go_wp2_with fail
  refine HF.out.mono ?_
  rintro e W ⟨hb, ⟨i, hi, hin, _, rfl⟩ | ⟨hno, rfl⟩⟩
  · exact (HP.out i hi hin).elim
  · go_wp2_with fail
    go_ret
    exact ⟨rfl, by go_grown⟩
end Go.Proofs.Ytmmgcmbniidieaa.GmRefP
