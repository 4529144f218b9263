/- The law FeatBits: a set contains what With added; some features are common to all kinds; options depend on three bits. For every input; the package's rules as the program's text lays them. -/
import Derived.Test.YtkncaafjkoeijaaDoorFeLives
import Derived.Test.YtkncaafjkoeijaaDoorCards
import Derived.Test.YtkncaafjkoeijaaDoorPick
import Derived.Test.YtkncaafjkoeijaaDoorOwn
import Derived.Test.YtkncaafjkoeijaaDoorArgs
namespace Go.Proofs.YtkncaafjkoeijaaDoor.FeatBits
open Go.ChangeShapes Go.WideShapes Go.ChangeAt Go.RowKit Fe Rw Own
set_option linter.unusedVariables false
set_option linter.unusedSimpArgs false

theorem of_u64 {a : Int} (h : (Lit.int .u64 a).wf = true) : ∃ X, a = nu X := nu_of (by have := bounds_u64 h; omega)
theorem zeroB (w : World) : (zeroValue 4).run Tryd.prog w = .ok (.bool false) w := by kernel_rfl
theorem intinfo : ∃ i, Tryd.prog.info? 3 = some i ∧ i.zero = some (.int .i64 0) ∧ i.size = 1 ∧ i.bytes = 8 := by
  have h : (Tryd.prog.info? 3).map (fun i => (i.size, i.bytes)) = some (1, 8) := by kernel_rfl
  have h2 : (Tryd.prog.info? 3).bind (fun i => i.zero) = some (.int .i64 0) := by kernel_rfl
  obtain ⟨i, hi, hs⟩ := Option.map_eq_some_iff.1 h
  rw [hi] at h2
  exact ⟨i, hi, h2, (Prod.mk.inj hs).1, (Prod.mk.inj hs).2⟩
abbrev InSet (w : World) (b : Nat) (vis : List Int) (D : DataW Unit) : Prop := SetAt Tryd.prog 3 4 .i64 w b vis D
def nums (ks : List Int) : List Value := ks.map (Value.int .i64)

/-- What is held while the bits are gathered. -/
structure Met (W8 : World) (mb : Nat) (wr : World) (ks : List Int) (AP : Option Addr) (C : Nat) : Prop where
  map : ∃ D, InSet wr mb ks D
  own : wr.ownsRow (mb + 1) 3 1 (.slice AP ks.length C) ks.length (nums ks)
  bel : Below W8.heap.size W8 wr
  siz : mb + 1 ≤ wr.heap.size
  bit : ∀ x ∈ ks, 0 ≤ x ∧ x < 64
def bf (ks : List Int) (j : Nat) : Nat := (ks.getD j 0).toNat
theorem bf_int {ks : List Int} (h : ∀ x ∈ ks, 0 ≤ x ∧ x < 64) {j : Nat} (hj : j < ks.length) : ((bf ks j : Nat) : Int) = ks.getD j 0 ∧ bf ks j < 64 := by
  have := h (ks.getD j 0) (by rw [List.getD_eq_getElem?_getD, List.getElem?_eq_getElem hj]; exact List.getElem_mem hj)
  unfold bf
  omega
theorem any_in {ks : List Int} (h : ∀ x ∈ ks, 0 ≤ x ∧ x < 64) (k : Nat) : ((List.range ks.length).any fun j => decide (k = bf ks j)) = decide ((k : Int) ∈ ks) := by
  rw [Bool.eq_iff_iff, List.any_eq_true, decide_eq_true_iff]
  constructor
  · rintro ⟨j, hj, he⟩
    have hj := List.mem_range.1 hj
    have he := of_decide_eq_true he
    rw [he, (bf_int h hj).1, List.getD_eq_getElem?_getD, List.getElem?_eq_getElem hj]
    exact List.getElem_mem hj
  · intro hm
    obtain ⟨j, hj, he⟩ := List.getElem_of_mem hm
    refine ⟨j, List.mem_range.2 hj, decide_eq_true ?_⟩
    have := (bf_int h hj).1
    rw [List.getD_eq_getElem?_getD, List.getElem?_eq_getElem hj] at this
    simp only [Option.getD_some] at this
    omega
theorem has_or {ks : List Int} (h : ∀ x ∈ ks, 0 ≤ x ∧ x < 64) (X : Set64) {k : Nat} (hk : k < 64) : hasB (orAll X (bf ks) ks.length) k = (decide ((k : Int) ∈ ks) || hasB X k) := by
  unfold hasB
  rw [orAll_bit X (bf ks) _ (by omega), Int.toNat_natCast, any_in h, decide_eq_true (show (0 : Int) ≤ (k : Int) by omega), decide_eq_true (show (k : Int) < 64 by omega)]
  simp [Bool.or_comm]
theorem row_bits {w : World} {base C : Nat} {AP : Option Addr} {ks : List Int} (h : w.ownsRow base 3 1 (.slice AP ks.length C) ks.length (nums ks)) (hb : ∀ x ∈ ks, 0 ≤ x ∧ x < 64) : IsRow w w.heap.size 1 AP ks.length (fun j => num (bf ks j)) := by
  refine (IsRow.of_own h).congr fun j hj => ?_
  have hj : j < ks.length := by omega
  show (nums ks).getD j undef = num (bf ks j)
  rw [(bf_int hb hj).1]
  unfold nums
  rw [List.getD_eq_getElem?_getD, List.getElem?_map, List.getD_eq_getElem?_getD, List.getElem?_eq_getElem hj]
  rfl
def c6 (j : Nat) : Int := [28, 29, 32, 34, 35, 40].getD j 0
theorem common {a b : Int} (ha : a = 1 ∨ a = 2 ∨ a = 3) (hb : b = 1 ∨ b = 2 ∨ b = 3) (j : Nat) (hj : j < 6) : hasB (allF a &&& allF b) (c6 j) = true := by
  rcases ha with rfl | rfl | rfl <;> rcases hb with rfl | rfl | rfl <;> (match j, hj with | 0, _ => decide +kernel | 1, _ => decide +kernel | 2, _ => decide +kernel | 3, _ => decide +kernel | 4, _ => decide +kernel | 5, _ => decide +kernel)
theorem common' {a b : Int} (ha : 0 ≤ a ∧ a < 3) (hb : 0 ≤ b ∧ b < 3) (j : Nat) (hj : j < 6) : hasB (allF (1 + a) &&& allF (1 + b)) (c6 j) = true := common (by omega) (by omega) j hj

set_option maxRecDepth 100000 in
set_option maxHeartbeats 4000000 in
theorem walk_long (X : Set64) (A : Option Addr) (n c : Nat) (a b : Int) (w : World) (hn : 100 < n) (hn2 : n ≤ 9223372036854775807) (ad : Addr) (cap : Nat) (hR : Rules w ad cap) : Calls Tryd.prog 6 #[st X, .slice A n c, num a, num b] w (Lib.True1 w.heap.size w) := by
  unfold Lib.True1
  have hb0 : Below w.heap.size w w := Below.refl _ _
  have HR := Lib.hid hR
  have h1 : decide ((100 : Int) < (n : Int)) = true := decide_eq_true (by omega)
  clear hR hn
  go_enter Tryd.func6, Tryd.ntmps6
  go_wp2_with fail
  refine (lives_any ad cap _ (HR.out.below (by go_grown))).mono ?_
  rintro eE W1 ⟨rfl, hg1⟩
  have hb1 : Below w.heap.size w W1 := (show Below w.heap.size w _ by go_grown).trans (hg1.mono (by first | omega | go_size))
  obtain ⟨hc1, hf1⟩ := bcell hg1
  have hs1 := hg1.size
  try simp only [World.size_alloc, World.size_setCell, World.size_drew] at hs1
  clear hg1 hc1 hf1
  go_wp2_with fail
  go_ret
  exact ⟨rfl, by go_grown⟩

set_option maxRecDepth 100000 in
set_option maxHeartbeats 8000000 in
theorem walk_ok (X : Set64) (A : Option Addr) (c : Nat) (zs : List Int) (a b : Int) (w : World) (hn : zs.length ≤ 100) (ha : (Lit.int .i64 a).wf = true) (hb : (Lit.int .i64 b).wf = true) (hz : ∀ z ∈ zs, (Lit.int .i64 z).wf = true)
    (hrow : IsRow w w.heap.size 1 A zs.length (fun j => num (zs.getD j 0))) (ad : Addr) (cap : Nat) (hR : Rules w ad cap) : Calls Tryd.prog 6 #[st X, .slice A zs.length c, num a, num b] w (Lib.True1 w.heap.size w) := by
  unfold Lib.True1
  have hb0 : Below w.heap.size w w := Below.refl _ _
  obtain ⟨n, hzl⟩ : ∃ n, zs.length = n := ⟨_, rfl⟩
  rw [hzl] at hn hrow ⊢
  have HR := Lib.hid hR
  have HZ := Lib.hid hz
  have HZL := Lib.hid hzl
  have HROW := Lib.hid hrow
  have HA := Lib.hid ha
  have HB := Lib.hid hb
  have h1 : decide ((100 : Int) < (n : Int)) = false := decide_eq_false (by omega)
  obtain ⟨iu, hiu, hzu, hsu, hbu⟩ := intinfo
  have HU0 := Lib.hid hiu
  have HU1 := Lib.hid hzu
  have HU2 := Lib.hid hsu
  have HU3 := Lib.hid hbu
  have hmm := @run_makeMap Tryd.prog
  clear hR hz hrow hzl ha hb hiu hzu hsu hbu
  go_enter Tryd.func6, Tryd.ntmps6
  go_wp2_with fail
  refine (lives_any ad cap _ (HR.out.below (by go_grown))).mono ?_
  rintro eE W1 ⟨rfl, hg1⟩
  have hb1 : Below w.heap.size w W1 := (show Below w.heap.size w _ by go_grown).trans (hg1.mono (by first | omega | go_size))
  obtain ⟨hc1, hf1⟩ := bcell hg1
  have hs1 := hg1.size
  try simp only [World.size_alloc, World.size_setCell, World.size_drew] at hs1
  clear hg1 hc1 hf1
  go_wp2_with fail
  clear hmm
  have hMet0 : Met W1 W1.heap.size (W1.alloc (.map #[] 0)) [] none 0 :=
    ⟨⟨.map [], World.ownsMap_made W1 Tryd.prog 3 (plainElem Tryd.prog 4), Maps.isMap_empty, fun x => rfl⟩, ⟨rfl, .inl ⟨rfl, rfl⟩⟩, (Below.refl _ _).alloc (Nat.le_refl _) _, by simp, fun x hx => by cases hx⟩
  generalize W1.alloc (.map #[] 0) = W2 at hMet0 ⊢
  obtain ⟨mb, hmb⟩ : ∃ mb, W1.heap.size = mb := ⟨_, rfl⟩
  have HMB := Lib.hid hmb
  rw [hmb] at hMet0 ⊢
  have HMet0 := Lib.hid hMet0
  clear hMet0
  go_loopw [9, 11] (fun p s wr => ∃ (i : Nat) (AP : Option Addr) (C : Nat) (ks : List Int), i ≤ n ∧ ks.length = i ∧ p = .slice AP i C ∧ s = num i ∧ Met W1 mb wr ks AP C) (fun p s wr => n - (intOf s).toNat)
  case atStart => exact ⟨0, none, 0, [], by omega, rfl, rfl, rfl, HMet0.out⟩
  case round =>
    obtain ⟨i, AP, C, ks, hi, hkl, rfl, rfl, hMet⟩ := hrel
    have hbel := hMet.bel
    have hsz := hMet.siz
    have HMet := Lib.hid hMet
    have HKL := Lib.hid hkl
    clear hMet hkl
    by_cases hil : i < n
    · obtain ⟨aa, rfl, hbl, hcell⟩ := HROW.out (by omega)
      have hbw : Below w.heap.size w wr := hb1.trans (hbel.mono (by omega))
      have c0 : wr.cell? (aa.add i) = some (num (zs.getD i 0)) := (hbw.cell (p := aa.add i) (by rw [block_of_add]; exact hbl)).trans (hcell i (by omega))
      have hwf : (Lit.int .i64 (zs.getD i 0)).wf = true := HZ.out _ (by rw [List.getD_eq_getElem?_getD, List.getElem?_eq_getElem (by rw [HZL.out]; exact hil)]; exact List.getElem_mem _)
      obtain ⟨z, hzz⟩ : ∃ z, zs.getD i 0 = z := ⟨_, rfl⟩
      rw [hzz] at c0 hwf
      have HWF := Lib.hid hwf
      clear hcell hzz hwf
      go_wp2_with fail
      clear c0
      refine (Pick.pick_some z 64 (by decide) HWF.out _).mono ?_
      rintro e W3 ⟨k, k0, k64, rfl, rfl⟩
      have HK := Lib.hid (And.intro k0 k64)
      have HO := Lib.hid (show wr.ownsRow (mb + 1) 3 1 (.slice AP i C) i (nums ks) from by have := HMet.out.own; rw [HKL.out] at this; exact this)
      have HO2 := Lib.hid (HO.out.alloc (.cells #[.int .i64 k] 3))
      have HN2 := Lib.hid (show ∀ j u, [Value.int .i64 k][j]? = some u → (wr.alloc (.cells #[.int .i64 k] 3)).cell? ((⟨wr.heap.size, 0, none⟩ : Addr).add j) = some u from by
        intro j u hu
        match j, hu with
        | 0, hu => cases hu; exact World.cell?_alloc_new _ _ _ _)
      clear k0 k64
      go_wp2_with (at_builtin; refine wpList_append_own _ rfl _ _ 38 rfl (mb + 1) 3 iu (.int .i64 0) 1 8 Tryd.underlying38 HU0.out HU1.out HU2.out HU3.out rfl (by decide) (.slice AP i C) i (nums ks) rfl HO2.out ⟨wr.heap.size, 0, none⟩ 1 1 [.int .i64 k] rfl rfl HN2.out (by simp [Value.oneCell']) (by unfold maxLen; omega) (by omega) (by simp; omega) ?_)
      intro v7 W4 hown4 hg4 _
      obtain ⟨A4, C4, rfl⟩ := own_slice hown4
      have hbk : ∀ g, (Value.slice AP i C).ownBlock = some g → mb + 1 ≤ g := own_block HO.out
      obtain ⟨D, hD⟩ := HMet.out.map
      have hm4 := (hD.kept (World.grownBy_alloc wr (.cells #[.int .i64 k] 3) none) (by simp)).kept hg4 (fun e => by have := hbk mb e.symm; omega)
      have hb4 : Below W1.heap.size W1 W4 := (hbel.alloc (by omega) (.cells #[.int .i64 k] 3)).grown hg4 (by simp; omega) (fun g e => by have := hbk g e; omega)
      have hs4 := hg4.size
      rw [World.size_alloc] at hs4
      have HM4 := Lib.hid hm4
      have HO4 := Lib.hid hown4
      clear hown4 hg4 hm4 hD
      have hkm : ks.length < maxLen := by rw [HKL.out]; unfold maxLen; omega
      have hkw : (Lit.int .i64 k).wf = true := WalkArith.wf_i64 (by have := HK.out; omega)
      go_wp2_with (at_mapUpdate; refine wpList_mapUpdate_own _ rfl _ _ _ 39 rfl 3 4 (Maps.int_keyed Tryd.underlying3) Tryd.underlying39 _ mb ks.length D rfl HM4.out.own hkm _ _ _ rfl rfl (Maps.keyOf_int_mk Tryd.underlying3 hkw) _ [] (plainElem_bool Tryd.underlying4 true) ?_)
      intro W6 hown6 hg6
      have hD6 := HM4.out.put hown6
      have hb6 : Below W1.heap.size W1 W6 := hb4.grown hg6 (by omega) (fun b e => by cases e; omega)
      have ho6 := own_ne HO4.out hg6 (fun b e => by cases e; left; omega)
      have hs6 := hg6.size
      have H6 := Lib.hid (And.intro hD6 (And.intro hb6 ho6))
      clear hown6 hg6 hD6 hb6 ho6
      go_wp2_with fail
      go_roundw
      case rel =>
        obtain ⟨k1, k2, k3⟩ := H6.out
        have hl' : (ks ++ [k]).length = i + 1 := by rw [List.length_append, HKL.out]; rfl
        refine ⟨i + 1, A4, C4, ks ++ [k], by omega, hl', rfl, by go_num, ⟨⟨_, k1⟩, ?_, k2, by omega, fun x hx => ?_⟩⟩
        · rw [hl']
          have : nums (ks ++ [k]) = nums ks ++ [.int .i64 k] := by unfold nums; rw [List.map_append]; rfl
          rw [this]
          exact k3
        · rw [List.mem_append] at hx
          rcases hx with hx | hx
          · exact HMet.out.bit x hx
          · rw [List.mem_singleton] at hx; subst hx; exact HK.out
      case measure => simp [intOf]; omega
    · obtain rfl : i = n := by omega
      have hbw : Below w.heap.size w wr := hb1.trans (hbel.mono (by omega))
      have HR2 := Lib.hid (row_bits HMet.out.own HMet.out.bit)
      rw [HKL.out] at HR2
      go_wp2_with fail
      refine (with_is X AP i C (bf ks) wr (by omega) (fun j hj => (bf_int HMet.out.bit (by rw [HKL.out]; exact hj)).2) HR2.out).mono ?_
      rintro e W5 ⟨rfl, hg5⟩
      obtain ⟨S, hS⟩ : ∃ S, orAll X (bf ks) i = S := ⟨_, rfl⟩
      have HOR := Lib.hid (show ∀ k : Nat, k < 64 → hasB S k = (decide ((k : Int) ∈ ks) || hasB X k) from fun k hk => by rw [← hS, ← HKL.out]; exact has_or HMet.out.bit X hk)
      obtain ⟨D, hD⟩ := HMet.out.map
      have HD := Lib.hid (hD.below hg5)
      have hb5 : Below w.heap.size w W5 := hbw.trans (hg5.mono (by have := hbw.size; omega))
      have hs5 := hg5.size
      have hmb5 : mb < W5.heap.size := by omega
      rw [hS]
      clear hg5 hD hS hbel hbw
      go_wp2_with fail
      go_loopw [15] (fun s w2 => ∃ k : Nat, k ≤ 64 ∧ s = num k ∧ Below W5.heap.size W5 w2) (fun s w2 => 64 - (intOf s).toNat)
      case atStart => exact ⟨0, by omega, rfl, Below.refl _ _⟩
      case round =>
        obtain ⟨k, hk, rfl, hbk⟩ := hrel
        have hszk := hbk.size
        by_cases hk64 : k < 64
        · obtain ⟨y, hy⟩ : ∃ y, decide ((k : Int) ∈ ks) = y := ⟨_, rfl⟩
          obtain ⟨p, hp⟩ : ∃ p, hasB X k = p := ⟨_, rfl⟩
          have HP := Lib.hid hp
          have HS := Lib.hid (show hasB S k = (y || p) from by rw [HOR.out k hk64, hy, hp])
          have hb0r : Below wr.heap.size wr wr := Below.refl _ _
          have Hlook := Lib.hid (show ∀ wq, Below wr.heap.size wr wq → (Instr.lookup 39 (.map (some mb)) (.int .i64 (k : Int)) false).run Tryd.prog wq = .ok (.bool y) wq from fun wq hq =>
            ((HD.out.below hbk).below hq).lookup Tryd.underlying39 Tryd.underlying3 Tryd.underlying4 (zeroB _) (WalkArith.wf_i64 (by omega)) hy)
          clear hy hp
          cases y
          all_goals
            go_wp2_with fail
            refine Lib.wp_region_class (Lib.Held wr _ []) (by kernel_rfl) (by kernel_rfl) ⟨by go_grown, Below.refl _ _, trivial⟩ ?_
            repeat (first | go_big_quiet_step ((intro hq; first | rfl | (go_at_call 15; exact Lib.Held.call hq (has_is _ _ _ (by first | exact HS.out | exact HP.out) _)) | (have hl := Hlook.out _ hq.1; rw [hl]; go_simp; rfl) | (have hq' := hq; obtain ⟨hbq, heq, _⟩ := hq'; go_simp; rfl))) | quiet_step ((intro hq; first | rfl | (go_at_call 15; exact Lib.Held.call hq (has_is _ _ _ (by first | exact HS.out | exact HP.out) _)) | (have hl := Hlook.out _ hq.1; rw [hl]; go_simp; rfl) | (have hq' := hq; obtain ⟨hbq, heq, _⟩ := hq'; go_simp; rfl))))
            refine wpQuiet_nil ?_
            intro W6 hq6
            obtain ⟨hb6, he6, _⟩ := hq6
            have hs6 := he6.size
            try simp only [World.size_alloc, World.size_setCell, World.size_drew] at hs6
            go_wp2_with fail
            go_roundw
            case rel => exact ⟨k + 1, by omega, by go_num, hbk.trans (hb6.mono hszk)⟩
            case measure => simp [intOf]; omega
        · obtain rfl : k = 64 := by omega
          have hbz : Below w.heap.size w wr := hb5.trans (hbk.mono (by have := hb5.size; omega))
          go_wp2_with fail
          refine (Pick.pick_some a 3 (by decide) HA.out _).mono ?_
          rintro e W7 ⟨r1, p1, q1, rfl, rfl⟩
          go_wp2_with fail
          refine (all_any (1 + r1) _).mono ?_
          rintro eE W8 ⟨rfl, hg8⟩
          have hb8 : Below w.heap.size w W8 := (show Below w.heap.size w _ by go_grown).trans (hg8.mono (by first | omega | go_size))
          obtain ⟨hc8, hf8⟩ := bcell hg8
          have hs8 := hg8.size
          try simp only [World.size_alloc, World.size_setCell, World.size_drew] at hs8
          clear hg8 hc8 hf8
          go_wp2_with fail
          refine (Pick.pick_some b 3 (by decide) HB.out _).mono ?_
          rintro e W9 ⟨r2, p2, q2, rfl, rfl⟩
          have e1 := b_and (allF (1 + r1)) (allF (1 + r2))
          go_wp2_with fail
          refine (all_any (1 + r2) _).mono ?_
          rintro eE W10 ⟨rfl, hg10⟩
          have hb10 : Below w.heap.size w W10 := (show Below w.heap.size w _ by go_grown).trans (hg10.mono (by first | omega | go_size))
          obtain ⟨hc10, hf10⟩ := bcell hg10
          have hs10 := hg10.size
          try simp only [World.size_alloc, World.size_setCell, World.size_drew] at hs10
          clear hg10 hc10 hf10
          go_wp2_with fail
          obtain ⟨Cm, hCm⟩ : ∃ Cm, allF (1 + r1) &&& allF (1 + r2) = Cm := ⟨_, rfl⟩
          have HC := Lib.hid (show ∀ j, j < 6 → hasB Cm (c6 j) = true from fun j hj => hCm ▸ common' ⟨p1, q1⟩ ⟨p2, q2⟩ j hj)
          rw [hCm]
          clear e1 hCm p1 q1 p2 q2
          have hcs : ∀ j, j < 6 → (W10.alloc (.cells #[num 28, num 29, num 32, num 34, num 35, num 40] 3)).cell? ⟨W10.heap.size, j, none⟩ = some (num (c6 j)) := fun j hj => by
            match j, hj with
            | 0, _ => exact World.cell?_alloc_new _ _ _ _
            | 1, _ => exact World.cell?_alloc_new _ _ _ _
            | 2, _ => exact World.cell?_alloc_new _ _ _ _
            | 3, _ => exact World.cell?_alloc_new _ _ _ _
            | 4, _ => exact World.cell?_alloc_new _ _ _ _
            | 5, _ => exact World.cell?_alloc_new _ _ _ _
          have hb11 : Below w.heap.size w (W10.alloc (.cells #[num 28, num 29, num 32, num 34, num 35, num 40] 3)) := by go_grown
          have hs11 : W10.heap.size < (W10.alloc (.cells #[num 28, num 29, num 32, num 34, num 35, num 40] 3)).heap.size := by simp
          generalize W10.alloc (.cells #[num 28, num 29, num 32, num 34, num 35, num 40] 3) = W11 at hcs hb11 hs11 ⊢
          have HCS := Lib.hid hcs
          clear hcs
          go_loopw [78] (fun s w2 => ∃ j : Nat, j ≤ 6 ∧ s = num j ∧ Below W11.heap.size W11 w2) (fun s w2 => 6 - (intOf s).toNat)
          case atStart => exact ⟨0, by omega, rfl, Below.refl _ _⟩
          case round =>
            obtain ⟨j, hj, rfl, hbj⟩ := hrel
            have hszj := hbj.size
            by_cases hj6 : j < 6
            · have cj : wr.cell? ⟨W10.heap.size, j, none⟩ = some (num (c6 j)) := (hbj.cell (p := ⟨W10.heap.size, j, none⟩) hs11).trans (HCS.out j hj6)
              go_wp2_with fail
              clear cj
              refine (has_is Cm (c6 j) true (HC.out j hj6) _).mono ?_
              rintro e W12 ⟨rfl, hg12⟩
              have hb12 := hbj.trans (hg12.mono hszj)
              clear hg12
              go_wp2_with fail
              go_roundw
              case rel => exact ⟨j + 1, by omega, by go_num, hb12⟩
              case measure => simp [intOf]; omega
            · obtain rfl : j = 6 := by omega
              obtain ⟨x, hx⟩ : ∃ x, hasB S 29 = x := ⟨_, rfl⟩
              obtain ⟨y, hy⟩ : ∃ y, hasB S 28 = y := ⟨_, rfl⟩
              obtain ⟨z, hz⟩ : ∃ z, hasB S 34 = z := ⟨_, rfl⟩
              have HX := Lib.hid hx
              have HY := Lib.hid hy
              have HZZ := Lib.hid hz
              have ex : (x == x) = true := beq_self_eq_true _
              have ey : (y == y) = true := beq_self_eq_true _
              have ez : (z == z) = true := beq_self_eq_true _
              have hbf : Below w.heap.size w wr := hb11.trans (hbj.mono (by have := hb11.size; omega))
              clear hx hy hz
              go_wp2_with fail
              refine (opts_is S x y z HX.out HY.out HZZ.out _).mono ?_
              rintro eE W13 ⟨rfl, hg13⟩
              have hb13 : Below w.heap.size w W13 := (show Below w.heap.size w _ by go_grown).trans (hg13.mono (by first | omega | go_size))
              obtain ⟨hc13, hf13⟩ := bcell hg13
              have hs13 := hg13.size
              try simp only [World.size_alloc, World.size_setCell, World.size_drew] at hs13
              clear hg13 hc13 hf13
              go_wp2_with fail
              refine Lib.wp_region_class (Lib.Held w _ [(W13.heap.size, 0, (.bool x : Value)), (W13.heap.size, 1, (.bool y : Value)), (W13.heap.size, 2, (.bool z : Value))]) (by kernel_rfl) (by kernel_rfl) ⟨by go_grown, Below.refl _ _, ⟨by first | omega | go_size, by first | go_cell | (simp [*]; done), by first | (with_reducible assumption) | (go_simp; done) | (simp [*]; done)⟩, ⟨by first | omega | go_size, by first | go_cell | (simp [*]; done), by first | (with_reducible assumption) | (go_simp; done) | (simp [*]; done)⟩, ⟨by first | omega | go_size, by first | go_cell | (simp [*]; done), by first | (with_reducible assumption) | (go_simp; done) | (simp [*]; done)⟩, trivial⟩ ?_
              repeat (first | go_big_quiet_step ((intro hq; first | rfl | (go_at_call 15; exact Lib.Held.call hq (has_is _ _ _ (by first | exact HX.out | exact HY.out | exact HZZ.out) _)) | (have hq' := hq; obtain ⟨hbq, heq, ⟨hkq_0, hlq_0, hzq_0⟩, ⟨hkq_1, hlq_1, hzq_1⟩, ⟨hkq_2, hlq_2, hzq_2⟩, _⟩ := hq'; go_simp; rfl))) | quiet_step ((intro hq; first | rfl | (go_at_call 15; exact Lib.Held.call hq (has_is _ _ _ (by first | exact HX.out | exact HY.out | exact HZZ.out) _)) | (have hq' := hq; obtain ⟨hbq, heq, ⟨hkq_0, hlq_0, hzq_0⟩, ⟨hkq_1, hlq_1, hzq_1⟩, ⟨hkq_2, hlq_2, hzq_2⟩, _⟩ := hq'; go_simp; rfl))))
              refine wpQuiet_nil ?_
              intro W14 hq14
              obtain ⟨hb14, he14, ⟨hk14_0, hl14_0, hz14_0⟩, ⟨hk14_1, hl14_1, hz14_1⟩, ⟨hk14_2, hl14_2, hz14_2⟩, _⟩ := hq14
              have hs14 := he14.size
              try simp only [World.size_alloc, World.size_setCell, World.size_drew] at hs14
              go_wp2_with fail
              go_ret
              exact ⟨rfl, by go_grown⟩

theorem walk (x : Int) (v : Value) (zs : List Int) (a b : Int) (w : World) (hx : (Lit.int .u64 x).wf = true) (hv : Args.IsInts w .i64 v zs) (ha : (Lit.int .i64 a).wf = true) (hb : (Lit.int .i64 b).wf = true) (hG : Door.Given w) : Calls Tryd.prog 6 #[.int .u64 x, v, .int .i64 a, .int .i64 b] w (Lib.True1 w.heap.size w) := by
  obtain ⟨X, rfl⟩ := of_u64 hx
  obtain ⟨ad, cap, hR⟩ := hG
  rcases hv with ⟨rfl, rfl⟩ | ⟨aa, cap', rfl, h1, h2, h3, h4⟩
  · exact walk_ok X none 0 [] a b w (by decide) ha hb (fun z hz => by cases hz) (fun h => by cases h) ad cap hR
  · by_cases hl : zs.length ≤ 100
    · exact walk_ok X (some aa) cap' zs a b w hl ha hb h4 (fun h0 => ⟨aa, rfl, (h3 0 h0).2, fun j hj => (h3 j (by omega)).1⟩) ad cap hR
    · exact walk_long X (some aa) zs.length cap' a b w (by omega) (by unfold maxLen at h2; omega) ad cap hR

set_option maxRecDepth 100000 in
theorem lifted (os : Os) (started : os.Started) (H : Type) (enc : TypeId × Value → H) :
    ReturnsInHanded {} Tryd.checked os 6 .any (fun w args => (Rows.featBitsSpec.pre enc Tryd.prog Tryd.f6 [] false w args ∧ laidMetH Tryd.prog Door.laidL w) ∧ sizedMet enc Tryd.prog Tryd.f6 (OpenSpec.ofChange Rows.featBitsSpec) false w args) (Rows.featBitsSpec.post enc Tryd.prog Tryd.f6 false true false false) := by
  refine LibD.lifted (C := Tryd.checked) (tb := 4) (laid := Door.laidL) H enc Lib.own started (by kernel_rfl) Tryd.func6
    (ChangeSpec.witness_shaped (enc := enc) (C := Tryd.checked) (os := os) (X := fun w _ => laidMetH Tryd.prog Door.laidL w) false (World.doorLaid Tryd.prog 400 os) #[.int .u64 0, .slice none 0 0, .int .i64 0, .int .i64 0] 8 rfl (World.shaped_of_RefB (by kernel_rfl) (by kernel_rfl)) (by kernel_rfl) (by kernel_rfl) (by kernel_rfl) (Door.met os _))
    Lib.laidOut (Lib.readable_of (by kernel_rfl)) rfl Tryd.underlying4 rfl ?_ ?_
  · intro ds h
    match ds, h with
    | [_, _, _, _], _ => exact ⟨rfl, rfl, rfl⟩
  · intro W base args ds p hval hA hfz hlt hL
    rw [Tryd.params6] at hval
    have hA' : DataW.TrodAll enc Tryd.prog W 0 (fun _ => true) true Tryd.f6.params.toList args.toList ds p := hA
    rw [Tryd.params6] at hA'
    obtain ⟨v0, vs0, d0, ds0, p0, q0, hargs, rfl, rfl, h0, r0⟩ := trodAll_cons hA'
    obtain ⟨v1, vs1, d1, ds1, p1, q1, rfl, rfl, rfl, h1, r1⟩ := trodAll_cons r0
    obtain ⟨v2, vs2, d2, ds2, p2, q2, rfl, rfl, rfl, h2, r2⟩ := trodAll_cons r1
    obtain ⟨v3, vs3, d3, ds3, p3, q3, rfl, rfl, rfl, h3, r3⟩ := trodAll_cons r2
    obtain ⟨rfl, rfl, rfl⟩ := trodAll_nil r3
    obtain rfl : args = #[v0, v1, v2, v3] := by cases args; simp_all
    obtain ⟨a0, rfl, rfl, rfl, w0⟩ := open_int Tryd.underlying22 (hval 0 22 v0 rfl rfl) h0
    obtain ⟨zs1, w1⟩ := Args.open_ints Tryd.underlying38 Tryd.underlying3 (by kernel_rfl) (hval 1 38 v1 rfl rfl) h1 (fun x hx => hlt x (by simp [hx]))
    obtain ⟨a2, rfl, rfl, rfl, w2⟩ := open_int Tryd.underlying3 (hval 2 3 v2 rfl rfl) h2
    obtain ⟨a3, rfl, rfl, rfl, w3⟩ := open_int Tryd.underlying3 (hval 3 3 v3 rfl rfl) h3
    exact walk a0 v1 zs1 a2 a3 W w0 w1 w2 w3 (Door.given hL)

theorem over : Rows.featBitsRow.holds Tryd.pinned (OpenSpec.ofChange Rows.featBitsSpec) :=
  OpenClaim.holds_of_wide 6 Tryd.f6 rfl rfl rfl rfl rfl rfl rfl ⟨rfl, rfl, rfl, rfl, rfl⟩ rfl rfl rfl rfl rfl (by kernel_rfl) Tryd.func6 (by kernel_rfl)
    (of_decide_eq_true (by kernel_rfl)) (by unfold Func.isWrapper; first | (rw [if_pos (by decide +kernel)]; kernel_rfl) | (rw [if_neg (by decide +kernel)]; exact ⟨rfl, rfl⟩))
    (fun os started H enc _ => lifted os started H enc)

/-- The statement. -/
theorem proved : Rows.FeatBitsCardSaid :=
  Claim7.holds_tied_plain_at .later [] Rows.featBitsCard.laidKinds true Rows.featBitsCard.stood.harness false
    over (fun _ h => by cases h) (by kernel_rfl) (fun _ h => by cases h) featBits_row_tie rfl ⟨rfl, rfl⟩ (by kernel_rfl) rfl
    (fun f fn hf hfn => by
      obtain rfl : f = 6 := Option.some.inj ((show Tryd.prog.funcNamed "dumbwaiter/dumbwaiterlaw06.FeatBits" = some 6 by kernel_rfl).symm.trans hf) |>.symm
      obtain rfl : fn = Tryd.f6 := (Option.some.inj (Tryd.func6.symm.trans hfn)).symm
      exact ⟨by kernel_rfl, LibD.no_stand (by kernel_rfl)⟩)
    (by kernel_rfl)

end Go.Proofs.YtkncaafjkoeijaaDoor.FeatBits
