
/- slices.Concat of rows of bytes. -/
import Derived.Test.YtmmgcmbniidieaaGmNew
import Derived.Test.YtmmgcmbniidieaaGmRead
import Derived.Test.YtmmgcmbniidieaaAppendOpt
import Derived.LoopN
namespace Go.Proofs.Ytmmgcmbniidieaa.SgConcat
open Go.RowKit Rw GmFind GmWord GmLoad GmCopy GmNew
set_option linter.unusedVariables false
set_option linter.unusedSimpArgs false

set_option maxRecDepth 100000 in
theorem grow_zero (w : World) : Calls Try.prog 50 #[.slice none 0 0, .int .i64 0] w fun e w' => e = .returned (.slice none 0 0) ∧ w = w' := by
  go_enter Try.func50, Try.ntmps50
  go_wp2
  go_ret
  exact ⟨rfl, rfl⟩

/-- An empty row of the call's own. -/
def EmptyP (w : World) (e : Ending) (w' : World) : Prop := ∃ (A : Option Addr) (C : Nat), e = .returned (.slice A 0 C) ∧ w'.ownsRow w.heap.size 5 1 (.slice A 0 C) 0 [] ∧ Below w.heap.size w w'

set_option maxRecDepth 100000 in
set_option maxHeartbeats 2000000 in
theorem grow_any (n : Nat) (h2 : n ≤ 1000000000) (w : World) : Calls Try.prog 50 #[.slice none 0 0, .int .i64 n] w (EmptyP w) := by
  rcases Nat.eq_zero_or_pos n with rfl | h1
  · refine (grow_zero w).mono ?_
    rintro e W ⟨rfl, rfl⟩
    exact ⟨none, 0, rfl, ⟨rfl, .inl ⟨rfl, rfl⟩⟩, Below.refl _ _⟩
  obtain ⟨i0, hi0, hz0, hs0, hby⟩ := GmNew.u8info
  have hfit : Builtin.nextslicecap (0 + n) 0 * i0.bytes ≤ 281474976710656 := growslice_fits (by omega) (by rw [hby]; omega)
  have hold : (Builtin.firstCells i0.size 0 (.slice none 0 0)).run Try.prog w.drew = .ok #[] w.drew := run_firstCells_none w.drew i0.size 0 0 0
  have hrz := fun ty => Lib.run_append_grow_zeros (P := Try.prog) w 37 3 ty 5 i0 (.int .u8 0) .i64 .i64 Try.underlying37 Try.underlying3 hi0 hz0 none 0 0 [] hold n (by omega) (by omega) (by omega) (by omega) (by rw [hby]; omega) hfit
  obtain ⟨C, hC⟩ : ∃ C, grownCap w (0 + n) 0 5 = C := ⟨_, rfl⟩
  have hC1 : n ≤ C := by have := grownCap_ge w (0 + n) 0 5; omega
  have hC2 : C ≤ maxLen := by have := grownCap_le_maxLen w (0 + n) 0 5 (by unfold maxLen; omega); omega
  have hC3 : (C : Int) ≤ 9223372036854775807 := by unfold maxLen at hC2; omega
  rw [hC] at hrz
  obtain ⟨Z, hZ⟩ : ∃ Z, (([] : List Value).toArray ++ Builtin.zeroCells (Value.int .u8 0).cells n ++ Builtin.zeroCells (Value.int .u8 0).cells (C - (0 + n))) = Z := ⟨_, rfl⟩
  rw [hZ] at hrz
  have hZs : Z.size = C := by rw [← hZ]; simp [zeros_size]; omega
  have HR := Lib.hid hrz
  have HZ := Lib.hid hZs
  have HM := Lib.hid hC2
  clear hrz hZ hZs hC hold hfit hC2
  have n0 : decide ((n : Int) < 0) = false := decide_eq_false (by omega)
  have n1 : decide ((0 : Int) < (n : Int)) = true := decide_eq_true (by omega)
  go_enter Try.func50, Try.ntmps50
  go_wp2_with (at_builtin; refine Lib.wpList_append_run _ rfl _ _ _ _ rfl _ _ rfl rfl _ _ (HR.out _) ?_)
  all_goals
    go_ret
    refine ⟨_, C, rfl, ⟨rfl, .inr ⟨w.heap.size, C, Z, rfl, Nat.le_refl _, ?_, Nat.zero_le _, HM.out, by rw [HZ.out, Nat.mul_one], by simp⟩⟩, by go_grown⟩
    show (w.heap.push (.cells Z 5))[w.heap.size]? = _
    simp

/-- Rows of bytes, and the list of slices that point to them. -/
def PartsAt (w : World) (vs : List Value) (bss : List (List Int)) : Prop := vs.length = bss.length ∧ ∀ (i : Nat) (ns : List Int), bss[i]? = some ns → ∃ b : Nat, vs[i]? = some (Value.slice (some ⟨b, 0, none⟩) ns.length ns.length) ∧ w.rowIs b 5 ns.length (fun j => .int .u8 (ns.getD j 0))
theorem PartsAt.below {w w' : World} {vs : List Value} {bss : List (List Int)} (h : PartsAt w vs bss) (hb : Below w.heap.size w w') : PartsAt w' vs bss := ⟨h.1, fun i ns hi => by
  obtain ⟨b, h1, h2⟩ := h.2 i ns hi
  exact ⟨b, h1, h2.of_block (hb.block b h2.lt)⟩⟩
theorem PartsAt.get {w : World} {vs : List Value} {bss : List (List Int)} (h : PartsAt w vs bss) {i : Nat} (hi : i < vs.length) : ∃ b ns, bss[i]? = some ns ∧ vs.getD i undef = .slice (some ⟨b, 0, none⟩) ns.length ns.length ∧ w.rowIs b 5 ns.length (fun j => .int .u8 (ns.getD j 0)) := by
  have hi' : i < bss.length := by rw [← h.1]; exact hi
  obtain ⟨b, h1, h2⟩ := h.2 i _ (List.getElem?_eq_getElem hi')
  exact ⟨b, _, List.getElem?_eq_getElem hi', by rw [List.getD_eq_getElem?_getD, h1]; rfl, h2⟩
theorem flat_succ {bss : List (List Int)} {i : Nat} {ns : List Int} (h : bss[i]? = some ns) : (bss.take (i + 1)).flatten = (bss.take i).flatten ++ ns := by
  rw [List.take_add_one, h]
  simp
theorem flat_len {bss : List (List Int)} (i : Nat) : (bss.take i).flatten.length ≤ bss.flatten.length := by
  have h : (bss.take i).flatten ++ (bss.drop i).flatten = bss.flatten := by rw [← List.flatten_append, List.take_append_drop]
  rw [← h, List.length_append]
  omega
def u8s (ns : List Int) : List Value := ns.map (Value.int .u8)
theorem u8s_append (a b : List Int) : u8s (a ++ b) = u8s a ++ u8s b := List.map_append
theorem u8s_length (a : List Int) : (u8s a).length = a.length := by simp [u8s]
theorem u8s_one (a : List Int) : ∀ v ∈ u8s a, v.oneCell' = true := by
  intro v hv
  obtain ⟨n, _, rfl⟩ := List.mem_map.1 hv
  rfl

/-- Bytes of the call's own. -/
def BytesP (ns : List Int) (w : World) (e : Ending) (w' : World) : Prop := ∃ (A : Option Addr) (c : Nat), e = .returned (.slice A ns.length c) ∧ w'.ownsRow w.heap.size 5 1 (.slice A ns.length c) ns.length (u8s ns) ∧ Below w.heap.size w w'

set_option maxRecDepth 100000 in
set_option maxHeartbeats 4000000 in
theorem concat_any (AP : Option Addr) (c : Nat) (vs : List Value) (bss : List (List Int)) (w : World) (hP : PartsAt w vs bss) (hrow : IsRow w w.heap.size 1 AP vs.length (fun i => vs.getD i undef)) (hlen : vs.length ≤ 1000000) (hsum : bss.flatten.length ≤ 1000000000) :
    Calls Try.prog 65 #[.slice AP vs.length c] w (BytesP bss.flatten w) := by
  have hb0 : Below w.heap.size w w := Below.refl _ _
  obtain ⟨i0, hi, hz0, hz1, hz2⟩ := GmNew.u8info
  have HI0 := Lib.hid hi
  have HI1 := Lib.hid hz0
  have HI2 := Lib.hid hz1
  have HI3 := Lib.hid hz2
  have HP := Lib.hid hP
  have HR := Lib.hid hrow
  obtain ⟨N, hN⟩ : ∃ N, vs.length = N := ⟨_, rfl⟩
  have HN := Lib.hid hN
  have HB := Lib.hid (show bss.length = N from by rw [← hP.1, hN])
  obtain ⟨S, hS⟩ : ∃ S, bss.flatten.length = S := ⟨_, rfl⟩
  have HS := Lib.hid hS
  unfold BytesP
  rw [hS] at hsum ⊢
  rw [hN] at hlen ⊢
  clear hi hz0 hz1 hz2 hP hrow hN hS
  go_enter Try.func65, Try.ntmps65
  go_wp2_with fail
  go_loop [3, 11] (fun x y => ∃ i : Nat, i ≤ N ∧ x = .int .i64 ((bss.take i).flatten.length : Nat) ∧ y = .int .i64 i) (fun x y => N - (intOf y).toNat)
  case atStart => exact ⟨0, by omega, by simp, rfl⟩
  case round =>
    obtain ⟨i, hiN, rfl, rfl⟩ := hrel
    by_cases hlt : i < N
    · obtain ⟨b, ns, hns, hv, hrb⟩ := HP.out.get (i := i) (by rw [HN.out]; exact hlt)
      obtain ⟨ad, rfl, had, hc⟩ := HR.out (by rw [HN.out]; omega)
      have c0 : w.cell? (ad.add i) = some (vs.getD i undef) := hc i (by rw [HN.out]; omega)
      rw [hv] at c0
      have hfl := flat_succ hns
      have hle := flat_len (bss := bss) (i + 1)
      have h0 := flat_len (bss := bss) i
      rw [HS.out] at hle h0
      obtain ⟨F, hF⟩ : ∃ F, (bss.take i).flatten.length = F := ⟨_, rfl⟩
      obtain ⟨K, hK⟩ : ∃ K, ns.length = K := ⟨_, rfl⟩
      rw [hfl, List.length_append, hF, hK] at hle
      have HF := Lib.hid (show (bss.take (i + 1)).flatten.length = F + K from by rw [hfl, List.length_append, hF, hK])
      rw [hF] at h0 ⊢
      rw [hK] at c0
      have g1 : decide ((F : Int) + K < 0) = false := decide_eq_false (by omega)
      clear hv hrb hc hfl hF hK hns
      go_wp2_with fail
      go_round
      case rel => exact ⟨i + 1, by omega, by rw [HF.out]; go_num, by go_num⟩
      case measure => simp [intOf]; omega
    · obtain rfl : i = N := by omega
      have e1 : (bss.take i).flatten.length = S := by rw [List.take_of_length_le (by rw [HB.out]; omega), HS.out]
      rw [e1]
      clear e1
      go_wp2_with fail
      (with_reducible refine (grow_any S hsum _).mono ?_)
      rintro e W1 ⟨A1, C1, rfl, hown1, hg1⟩
      have hs1 := hg1.size
      have hb1 := hg1
      have H1 := Lib.hid hown1
      clear hown1 hg1
      go_wp2_with fail
      go_loopw [6, 27] (fun x y wr => ∃ (q : Nat) (A : Option Addr) (C : Nat), q ≤ i ∧ x = .slice A (bss.take q).flatten.length C ∧ y = .int .i64 q ∧ wr.ownsRow w.heap.size 5 1 (.slice A (bss.take q).flatten.length C) (bss.take q).flatten.length (u8s (bss.take q).flatten) ∧ Below w.heap.size w wr) (fun x y wr => i - (intOf y).toNat)
      case atStart => exact ⟨0, A1, C1, by omega, by simp, rfl, by simpa [u8s] using H1.out, hb1⟩
      case round =>
        obtain ⟨q, A, C, hqN, rfl, rfl, hown, hb⟩ := hrel
        have hsw := hb.size
        by_cases hlt2 : q < i
        · obtain ⟨b, ns, hns, hv, hrb⟩ := HP.out.get (i := q) (by rw [HN.out]; exact hlt2)
          obtain ⟨ad, rfl, had, hc⟩ := HR.out (by rw [HN.out]; omega)
          have c0 : wr.cell? (ad.add q) = some (vs.getD q undef) := (hb.cell (p := ad.add q) (by rw [block_of_add]; exact had)).trans (hc q (by rw [HN.out]; omega))
          rw [hv] at c0
          have hrb2 := hrb.of_block (hb.block b hrb.lt)
          have hfl := flat_succ hns
          have hle := flat_len (bss := bss) (q + 1)
          rw [HS.out, hfl, List.length_append] at hle
          have HF := Lib.hid hfl
          have HNW := Lib.hid (show ∀ j u, (u8s ns)[j]? = some u → wr.cell? ((⟨b, 0, none⟩ : Addr).add j) = some u from by
            intro j u hu
            simp only [u8s, List.getElem?_map, Option.map_eq_some_iff] at hu
            obtain ⟨z, hz, rfl⟩ := hu
            obtain ⟨hj, rfl⟩ := List.getElem?_eq_some_iff.1 hz
            have e : (⟨b, 0, none⟩ : Addr).add j = ⟨b, j, none⟩ := by unfold Addr.add; split <;> simp_all
            rw [e, hrb2.cell hj]
            simp [List.getD_eq_getElem?_getD, hj])
          have HO := Lib.hid hown
          obtain ⟨X, hX⟩ : ∃ X, (bss.take q).flatten = X := ⟨_, rfl⟩
          rw [hX] at HO HF hle ⊢
          obtain ⟨XN, hXN⟩ : ∃ XN, X.length = XN := ⟨_, rfl⟩
          obtain ⟨K, hK⟩ : ∃ K, ns.length = K := ⟨_, rfl⟩
          have HXN := Lib.hid hXN
          have HK := Lib.hid hK
          rw [hXN] at HO hle ⊢
          rw [hK] at c0 hle
          clear hown hv hrb hrb2 hc hfl hns hX hXN hK
          go_wp2_with (at_builtin; refine wpList_append_own _ rfl _ _ 37 rfl w.heap.size 5 i0 (.int .u8 0) 1 1 Try.underlying37 HI0.out HI1.out HI2.out HI3.out rfl (by decide) (.slice A XN C) XN (u8s X) rfl HO.out ⟨b, 0, none⟩ K K (u8s ns) rfl (by rw [u8s_length, HK.out, Nat.mul_one]) HNW.out (u8s_one ns) (by unfold maxLen; omega) (by omega) hsw ?_)
          intro v' W3 hown3 hg3 _
          obtain ⟨A3, C3, rfl⟩ := GmNew.own_slice hown3
          have hb3 : Below w.heap.size w W3 := hb.grown hg3 hsw (fun k e => GmNew.own_block HO.out k e)
          rw [← u8s_append, ← HF.out] at hown3
          have HH := Lib.hid (And.intro hown3 hb3)
          have HL := Lib.hid (show (bss.take (q + 1)).flatten.length = XN + K from by rw [HF.out, List.length_append, HXN.out, HK.out])
          clear hown3 hg3 hb3
          go_wp2_with fail
          go_roundw
          case rel => exact ⟨q + 1, A3, C3, by omega, by rw [HL.out], by go_num, by rw [HL.out]; exact HH.out.1, HH.out.2⟩
          case measure => simp [intOf]; omega
        · obtain rfl : q = i := by omega
          have e2 : bss.take q = bss := List.take_of_length_le (by rw [HB.out]; omega)
          rw [e2] at hown
          rw [HS.out] at hown
          have e3 : (bss.take q).flatten.length = S := by rw [e2, HS.out]
          rw [e3]
          have HO := Lib.hid hown
          clear hown e2 e3
          go_wp2_with fail
          go_ret
          exact ⟨A, C, rfl, HO.out, hb⟩

end Go.Proofs.Ytmmgcmbniidieaa.SgConcat
