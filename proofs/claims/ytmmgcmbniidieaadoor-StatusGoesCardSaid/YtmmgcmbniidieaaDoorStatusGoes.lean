/- The law StatusGoes: whatever is written and requested, a device becomes live only step by step; what is fixed stays. For every kind, offer and list of acts. The features' rules as the program's text lays them. -/
import Derived.Test.YtmmgcmbniidieaaDoorStLives
import Derived.Test.YtmmgcmbniidieaaDoorStGMath
import Derived.Test.YtmmgcmbniidieaaDoorStActs
import Derived.Test.YtmmgcmbniidieaaDoorStR3
import Derived.Test.YtmmgcmbniidieaaDoorHeldEq
import Derived.Test.YtmmgcmbniidieaaDoorPick
import Derived.Deep.DeepCutAuto
import Derived.Test.YtmmgcmbniidieaaDoorCards
namespace Go.Proofs.YtmmgcmbniidieaaDoor.StatusGoes
open Go.ChangeShapes Go.WideShapes Go.ChangeAt Go.RowKit Fe St Rw StArgs
set_option linter.unusedVariables false
set_option linter.unusedSimpArgs false

set_option maxRecDepth 100000 in
set_option maxHeartbeats 4000000 in
theorem walk_far (n x : Int) (A : Option Addr) (k c : Nat) (w : World) (hG : Door.Given w) (hc : c ≤ 9223372036854775807) (hk : k ≤ c) (h : 60 < k) : Calls Tryd.prog 4 #[num n, .int .u64 x, .slice A k c] w (Lib.True1 w.heap.size w) := by
  unfold Lib.True1
  obtain ⟨ad, cap, hR⟩ := hG
  have hb0 : Below w.heap.size w w := Below.refl _ _
  have HR := Lib.hid hR
  clear hR
  have d1 : decide ((60 : Int) < ((k : Nat) : Int)) = true := decide_eq_true (by omega)
  go_enter Tryd.func4, Tryd.ntmps4
  go_wp2_with fail
  refine (St.lives_any ad cap _ (HR.out.below (by go_grown))).mono ?_
  rintro eE W1 ⟨rfl, hg1⟩
  have hb1 : Below w.heap.size w W1 := (show Below w.heap.size w _ by go_grown).trans (hg1.mono (by first | omega | go_size))
  obtain ⟨hc1, hf1⟩ := bcell hg1
  have hs1 := hg1.size
  try simp only [World.size_alloc, World.size_setCell, World.size_drew] at hs1
  clear hg1 hc1 hf1
  go_wp2_with fail
  go_ret
  exact ⟨rfl, by go_grown⟩

/-- An act's four cells. -/
def ActAt (W : World) (b : Nat) (kd : Int) (wd : Byte) (S : Set64) (nd : Bool) : Prop :=
  (W.cell? ⟨b, 0, none⟩ = some (num kd) ∧ W.cell? ⟨b, 1, none⟩ = some (by8 wd) ∧ W.cell? ⟨b, 2, none⟩ = some (st S) ∧ W.cell? ⟨b, 3, none⟩ = some (.bool nd)) ∧
  (W.frozen? ⟨b, 0, none⟩ = false ∧ W.frozen? ⟨b, 1, none⟩ = false ∧ W.frozen? ⟨b, 2, none⟩ = false ∧ W.frozen? ⟨b, 3, none⟩ = false)
theorem four {s : Byte} {a z : Bool} (h : okB s a z = true) : (hasb s 2#8 = false ∧ hasb s 8#8 = false ∧ hasb s 4#8 = false) ∨ (hasb s 2#8 = true ∧ hasb s 1#8 = true ∧ hasb s 8#8 = false ∧ hasb s 4#8 = false) ∨
    (a = true ∧ hasb s 2#8 = true ∧ hasb s 1#8 = true ∧ hasb s 8#8 = true ∧ hasb s 4#8 = false) ∨ (a = true ∧ hasb s 2#8 = true ∧ hasb s 1#8 = true ∧ hasb s 8#8 = true ∧ hasb s 4#8 = true) := by
  obtain ⟨h8, h4, h2⟩ := chain h
  cases e2 : hasb s 2#8 <;> cases e8 : hasb s 8#8 <;> cases e4 : hasb s 4#8 <;> simp_all
theorem bits_of (s b : Byte) : (nb (s &&& b) != 0) = hasb s b := by rw [bne, nb_beq0]; rfl
theorem bits_no (s b : Byte) : (nb (s &&& b) == 0) = !hasb s b := by rw [nb_beq0]; unfold hasb; rw [Bool.not_not]

set_option maxRecDepth 100000 in
set_option maxHeartbeats 16000000 in
theorem walk_near (n : Int) (X : Set64) (A : Option Addr) (k c : Nat) (f : Nat → Ac) (w : World) (hn : (Lit.int .i64 n).wf = true) (hA : IsActs w (.slice A k c) A k c f) (hG : Door.Given w) (h60 : k ≤ 60) : Calls Tryd.prog 4 #[num n, st X, .slice A k c] w (Lib.True1 w.heap.size w) := by
  unfold Lib.True1
  obtain ⟨ad0, cap, hR⟩ := hG
  have hb0 : Below w.heap.size w w := Below.refl _ _
  have HR := Lib.hid hR
  have HA := Lib.hid hA
  clear hR hA
  have d1 : decide ((60 : Int) < ((k : Nat) : Int)) = false := decide_eq_false (by omega)
  go_enter Tryd.func4, Tryd.ntmps4
  go_wp2_with fail
  refine (St.lives_any ad0 cap _ (HR.out.below (by go_grown))).mono ?_
  rintro eE W1 ⟨rfl, hg1⟩
  have hb1 : Below w.heap.size w W1 := (show Below w.heap.size w _ by go_grown).trans (hg1.mono (by first | omega | go_size))
  obtain ⟨hc1, hf1⟩ := bcell hg1
  have hs1 := hg1.size
  try simp only [World.size_alloc, World.size_setCell, World.size_drew] at hs1
  clear hg1 hc1 hf1
  go_wp2_with fail
  refine (Pick.pick_some n 3 (by omega) hn _).mono ?_
  rintro e w' ⟨r, h0, h3, rfl, rfl⟩
  go_wp2_with fail
  generalize hK0 : (1 : Int) + r = K
  have hk : K = 1 ∨ K = 2 ∨ K = 3 := by omega
  clear hK0 h0 h3
  have HK := Lib.hid hk
  clear hk
  have e1 := b_and X (allF K)
  have e2 : bits .or .u64 (nu (X &&& allF K)) 4294967296 = nu ((X &&& allF K) ||| v1) := b_or _ v1
  refine (StR.all_any K _).mono ?_
  rintro eE W2 ⟨rfl, hg2⟩
  have hb2 : Below w.heap.size w W2 := (show Below w.heap.size w _ by go_grown).trans (hg2.mono (by first | omega | go_size))
  obtain ⟨hc2, hf2⟩ := bcell hg2
  have hs2 := hg2.size
  try simp only [World.size_alloc, World.size_setCell, World.size_drew] at hs2
  clear hg2 hc2 hf2
  go_wp2_with fail
  clear e1 e2
  generalize hO : (X &&& allF K) ||| v1 = O
  have HO := Lib.hid (show offersB K O = true from hO ▸ offers_made HK.out X)
  clear hO
  refine (new_ok K O (v0 HO.out) ad0 cap _ (HR.out.below (by go_grown))).mono ?_
  rintro eE W3 ⟨rfl, hg3⟩
  have hb3 : Below w.heap.size w W3 := (show Below w.heap.size w _ by go_grown).trans (hg3.mono (by first | omega | go_size))
  obtain ⟨hc3, hf3⟩ := bcell hg3
  have hs3 := hg3.size
  try simp only [World.size_alloc, World.size_setCell, World.size_drew] at hs3
  clear hg3 hc3 hf3
  go_wp2_with fail
  clear d1
  go_loopw [9] (fun i wr => ∃ (j : Nat) (G : Set64) (s : Byte), j ≤ k ∧ i = num ((j : Nat) : Int) ∧ validB K O G s = true ∧ Below w.heap.size w wr ∧ W3.heap.size < wr.heap.size ∧ DevAt wr W3.heap.size K O G s) (fun i wr => k - (intOf i).toNat)
  case atStart => exact ⟨0, 0#64, 0#8, by omega, rfl, v0 HO.out, by go_grown, by go_size, ⟨⟨by go_cell, by go_cell, by go_cell, by go_cell⟩, by first | (with_reducible assumption) | (go_simp; done) | (simp [*]; done), by first | (with_reducible assumption) | (go_simp; done) | (simp [*]; done), by first | (with_reducible assumption) | (go_simp; done) | (simp [*]; done), by first | (with_reducible assumption) | (go_simp; done) | (simp [*]; done)⟩⟩
  case round =>
    obtain ⟨j, G, s, hj, rfl, hv, hbw, hsz, ⟨⟨m0, m1, m2, m3⟩, n0, n1, n2, n3⟩⟩ := hrel
    have hsw := hbw.size
    by_cases hlt : j < k
    · obtain ⟨ad, rfl, hbl, hcell⟩ := HA.out.row (by omega)
      have hcw : ∀ i, i < k * 4 → wr.cell? (ad.add i) = some (cellA f i) := fun i hi => (hbw.cell (p := ad.add i) (by rw [block_of_add]; exact hbl)).trans (hcell i hi)
      have c0 := (el0 hcw hlt (by omega)).trans (by rw [cellA0])
      have c1 := (elj hcw hlt 1 (by omega) (by omega)).trans (by rw [cellA1])
      have c2 := (elj hcw hlt 2 (by omega) (by omega)).trans (by rw [cellA2])
      have c3 := (elj hcw hlt 3 (by omega) (by omega)).trans (by rw [cellA3])
      clear hcw hcell
      have HKD := Lib.hid (HA.out.wk j hlt)
      obtain ⟨wd, hwd⟩ := nb_of (HA.out.ww j hlt)
      obtain ⟨S, hS⟩ := nu_of (HA.out.ws j hlt)
      rw [hwd] at c1
      rw [hS] at c2
      generalize (f j).kd = kd at c0 HKD
      generalize (f j).nd = nd at c3
      clear hwd hS
      have dj : decide (((j : Nat) : Int) < ((k : Nat) : Int)) = true := decide_eq_true (by omega)
      have hok : okB s (acceptB K O G) (G == 0#64) = true := by rw [valid_ok, HO.out] at hv; exact hv
      obtain ⟨s1, hs1⟩ : ∃ s1, s1 = if nd && hasb s 4#8 then s ||| 64#8 else s := ⟨_, rfl⟩
      have hv1 : validB K O G s1 = true := by
        rw [hs1]
        split
        · rename_i h
          rw [Bool.and_eq_true] at h
          rw [valid_ok, HO.out, or_ok hok h.2]; rfl
        · exact hv
      have HV := Lib.hid hv
      have HV1 := Lib.hid hv1
      have HS1 := Lib.hid hs1
      clear hv hv1 hok hs1
      go_upto_if 54 with fail
      clear c0 c1 c2 c3
      go_cut [] (fun wx => Below w.heap.size w wx ∧ wr.heap.size + 1 < wx.heap.size ∧ DevAt wx W3.heap.size K O G s1 ∧ DevAt wx (wr.heap.size + 1) K O G s1 ∧ ActAt wx wr.heap.size kd wd S nd)
      case first =>
        as_aux_lemma =>
          have hk0 : W3.heap.size < wr.heap.size := hsz
          cases nd with
          | false =>
            have hs : s = s1 := HS1.out.symm
            subst hs
            go_wp2_with fail
            go_meet
            exact ⟨by go_grown, by go_size, ⟨⟨by go_cell, by go_cell, by go_cell, by go_cell⟩, by first | (with_reducible assumption) | (go_simp; done) | (simp [*]; done), by first | (with_reducible assumption) | (go_simp; done) | (simp [*]; done), by first | (with_reducible assumption) | (go_simp; done) | (simp [*]; done), by first | (with_reducible assumption) | (go_simp; done) | (simp [*]; done)⟩, ⟨⟨by go_cell, by go_cell, by go_cell, by go_cell⟩, by first | (with_reducible assumption) | (go_simp; done) | (simp [*]; done), by first | (with_reducible assumption) | (go_simp; done) | (simp [*]; done), by first | (with_reducible assumption) | (go_simp; done) | (simp [*]; done), by first | (with_reducible assumption) | (go_simp; done) | (simp [*]; done)⟩, ⟨⟨by go_cell, by go_cell, by go_cell, by go_cell⟩, by first | (with_reducible assumption) | (go_simp; done) | (simp [*]; done), by first | (with_reducible assumption) | (go_simp; done) | (simp [*]; done), by first | (with_reducible assumption) | (go_simp; done) | (simp [*]; done), by first | (with_reducible assumption) | (go_simp; done) | (simp [*]; done)⟩⟩
          | true =>
            have e4 : bits .and .u8 (nb s) 4 = nb (s &&& 4#8) := y_and s 4#8
            have c4 := bits_of s 4#8
            cases h4 : hasb s 4#8 with
            | false =>
              rw [h4] at c4
              have H4 := Lib.hid h4
              have hs : s = s1 := by rw [HS1.out, h4]; rfl
              subst hs
              clear h4
              go_wp2_with fail
              refine (break_dead K O G s HV.out H4.out ad0 cap _ (HR.out.below (by go_grown))).mono ?_
              rintro eE W4 ⟨rfl, hg4⟩
              have hb4 : Below w.heap.size w W4 := (show Below w.heap.size w _ by go_grown).trans (hg4.mono (by first | omega | go_size))
              obtain ⟨hc4, hf4⟩ := bcell hg4
              have hs4 := hg4.size
              try simp only [World.size_alloc, World.size_setCell, World.size_drew] at hs4
              have hl4_0_0 : W4.cell? ⟨W3.heap.size, 0, none⟩ = some (num K) := (hc4 _ _ (by first | omega | go_size)).trans (by first | (with_reducible assumption) | go_cell)
              have hz4_0_0 : W4.frozen? ⟨W3.heap.size, 0, none⟩ = false := (hf4 _ _ (by first | omega | go_size)).trans (by first | (with_reducible assumption) | (go_simp; done) | (simp [*]; done))
              have hl4_0_1 : W4.cell? ⟨W3.heap.size, 1, none⟩ = some (st O) := (hc4 _ _ (by first | omega | go_size)).trans (by first | (with_reducible assumption) | go_cell)
              have hz4_0_1 : W4.frozen? ⟨W3.heap.size, 1, none⟩ = false := (hf4 _ _ (by first | omega | go_size)).trans (by first | (with_reducible assumption) | (go_simp; done) | (simp [*]; done))
              have hl4_0_2 : W4.cell? ⟨W3.heap.size, 2, none⟩ = some (st G) := (hc4 _ _ (by first | omega | go_size)).trans (by first | (with_reducible assumption) | go_cell)
              have hz4_0_2 : W4.frozen? ⟨W3.heap.size, 2, none⟩ = false := (hf4 _ _ (by first | omega | go_size)).trans (by first | (with_reducible assumption) | (go_simp; done) | (simp [*]; done))
              have hl4_0_3 : W4.cell? ⟨W3.heap.size, 3, none⟩ = some (by8 s) := (hc4 _ _ (by first | omega | go_size)).trans (by first | (with_reducible assumption) | go_cell)
              have hz4_0_3 : W4.frozen? ⟨W3.heap.size, 3, none⟩ = false := (hf4 _ _ (by first | omega | go_size)).trans (by first | (with_reducible assumption) | (go_simp; done) | (simp [*]; done))
              have hk4_0 : W3.heap.size < W4.heap.size := by omega
              have hl4_1_0 : W4.cell? ⟨wr.heap.size, 0, none⟩ = some (num kd) := (hc4 _ _ (by first | omega | go_size)).trans (by first | (with_reducible assumption) | go_cell)
              have hz4_1_0 : W4.frozen? ⟨wr.heap.size, 0, none⟩ = false := (hf4 _ _ (by first | omega | go_size)).trans (by first | (with_reducible assumption) | (go_simp; done) | (simp [*]; done))
              have hl4_1_1 : W4.cell? ⟨wr.heap.size, 1, none⟩ = some (by8 wd) := (hc4 _ _ (by first | omega | go_size)).trans (by first | (with_reducible assumption) | go_cell)
              have hz4_1_1 : W4.frozen? ⟨wr.heap.size, 1, none⟩ = false := (hf4 _ _ (by first | omega | go_size)).trans (by first | (with_reducible assumption) | (go_simp; done) | (simp [*]; done))
              have hl4_1_2 : W4.cell? ⟨wr.heap.size, 2, none⟩ = some (st S) := (hc4 _ _ (by first | omega | go_size)).trans (by first | (with_reducible assumption) | go_cell)
              have hz4_1_2 : W4.frozen? ⟨wr.heap.size, 2, none⟩ = false := (hf4 _ _ (by first | omega | go_size)).trans (by first | (with_reducible assumption) | (go_simp; done) | (simp [*]; done))
              have hl4_1_3 : W4.cell? ⟨wr.heap.size, 3, none⟩ = some (.bool true) := (hc4 _ _ (by first | omega | go_size)).trans (by first | (with_reducible assumption) | go_cell)
              have hz4_1_3 : W4.frozen? ⟨wr.heap.size, 3, none⟩ = false := (hf4 _ _ (by first | omega | go_size)).trans (by first | (with_reducible assumption) | (go_simp; done) | (simp [*]; done))
              have hk4_1 : wr.heap.size < W4.heap.size := by omega
              have hl4_2_0 : W4.cell? ⟨wr.heap.size + 1, 0, none⟩ = some (num K) := (hc4 _ _ (by first | omega | go_size)).trans (by first | (with_reducible assumption) | go_cell)
              have hz4_2_0 : W4.frozen? ⟨wr.heap.size + 1, 0, none⟩ = false := (hf4 _ _ (by first | omega | go_size)).trans (by first | (with_reducible assumption) | (go_simp; done) | (simp [*]; done))
              have hl4_2_1 : W4.cell? ⟨wr.heap.size + 1, 1, none⟩ = some (st O) := (hc4 _ _ (by first | omega | go_size)).trans (by first | (with_reducible assumption) | go_cell)
              have hz4_2_1 : W4.frozen? ⟨wr.heap.size + 1, 1, none⟩ = false := (hf4 _ _ (by first | omega | go_size)).trans (by first | (with_reducible assumption) | (go_simp; done) | (simp [*]; done))
              have hl4_2_2 : W4.cell? ⟨wr.heap.size + 1, 2, none⟩ = some (st G) := (hc4 _ _ (by first | omega | go_size)).trans (by first | (with_reducible assumption) | go_cell)
              have hz4_2_2 : W4.frozen? ⟨wr.heap.size + 1, 2, none⟩ = false := (hf4 _ _ (by first | omega | go_size)).trans (by first | (with_reducible assumption) | (go_simp; done) | (simp [*]; done))
              have hl4_2_3 : W4.cell? ⟨wr.heap.size + 1, 3, none⟩ = some (by8 s) := (hc4 _ _ (by first | omega | go_size)).trans (by first | (with_reducible assumption) | go_cell)
              have hz4_2_3 : W4.frozen? ⟨wr.heap.size + 1, 3, none⟩ = false := (hf4 _ _ (by first | omega | go_size)).trans (by first | (with_reducible assumption) | (go_simp; done) | (simp [*]; done))
              have hk4_2 : wr.heap.size + 1 < W4.heap.size := by omega
              clear hg4 hc4 hf4
              go_wp2_with fail
              go_meet
              exact ⟨by go_grown, by go_size, ⟨⟨by go_cell, by go_cell, by go_cell, by go_cell⟩, by first | (with_reducible assumption) | (go_simp; done) | (simp [*]; done), by first | (with_reducible assumption) | (go_simp; done) | (simp [*]; done), by first | (with_reducible assumption) | (go_simp; done) | (simp [*]; done), by first | (with_reducible assumption) | (go_simp; done) | (simp [*]; done)⟩, ⟨⟨by go_cell, by go_cell, by go_cell, by go_cell⟩, by first | (with_reducible assumption) | (go_simp; done) | (simp [*]; done), by first | (with_reducible assumption) | (go_simp; done) | (simp [*]; done), by first | (with_reducible assumption) | (go_simp; done) | (simp [*]; done), by first | (with_reducible assumption) | (go_simp; done) | (simp [*]; done)⟩, ⟨⟨by go_cell, by go_cell, by go_cell, by go_cell⟩, by first | (with_reducible assumption) | (go_simp; done) | (simp [*]; done), by first | (with_reducible assumption) | (go_simp; done) | (simp [*]; done), by first | (with_reducible assumption) | (go_simp; done) | (simp [*]; done), by first | (with_reducible assumption) | (go_simp; done) | (simp [*]; done)⟩⟩
            | true =>
              rw [h4] at c4
              have H4 := Lib.hid h4
              have hs : s ||| 64#8 = s1 := by rw [HS1.out, h4]; rfl
              have HS := Lib.hid hs
              have e5 : bits .or .u8 (nb s) 64 = nb s1 := (y_or s 64#8).trans (congrArg nb hs)
              clear h4 hs
              go_wp2_with fail
              refine (break_ok K O G s HV.out H4.out s1 HS.out ad0 cap _ (HR.out.below (by go_grown))).mono ?_
              rintro eE W4 ⟨rfl, hg4⟩
              have hb4 : Below w.heap.size w W4 := (show Below w.heap.size w _ by go_grown).trans (hg4.mono (by first | omega | go_size))
              obtain ⟨hc4, hf4⟩ := bcell hg4
              have hs4 := hg4.size
              try simp only [World.size_alloc, World.size_setCell, World.size_drew] at hs4
              have hl4_0_0 : W4.cell? ⟨W3.heap.size, 0, none⟩ = some (num K) := (hc4 _ _ (by first | omega | go_size)).trans (by first | (with_reducible assumption) | go_cell)
              have hz4_0_0 : W4.frozen? ⟨W3.heap.size, 0, none⟩ = false := (hf4 _ _ (by first | omega | go_size)).trans (by first | (with_reducible assumption) | (go_simp; done) | (simp [*]; done))
              have hl4_0_1 : W4.cell? ⟨W3.heap.size, 1, none⟩ = some (st O) := (hc4 _ _ (by first | omega | go_size)).trans (by first | (with_reducible assumption) | go_cell)
              have hz4_0_1 : W4.frozen? ⟨W3.heap.size, 1, none⟩ = false := (hf4 _ _ (by first | omega | go_size)).trans (by first | (with_reducible assumption) | (go_simp; done) | (simp [*]; done))
              have hl4_0_2 : W4.cell? ⟨W3.heap.size, 2, none⟩ = some (st G) := (hc4 _ _ (by first | omega | go_size)).trans (by first | (with_reducible assumption) | go_cell)
              have hz4_0_2 : W4.frozen? ⟨W3.heap.size, 2, none⟩ = false := (hf4 _ _ (by first | omega | go_size)).trans (by first | (with_reducible assumption) | (go_simp; done) | (simp [*]; done))
              have hl4_0_3 : W4.cell? ⟨W3.heap.size, 3, none⟩ = some (by8 s) := (hc4 _ _ (by first | omega | go_size)).trans (by first | (with_reducible assumption) | go_cell)
              have hz4_0_3 : W4.frozen? ⟨W3.heap.size, 3, none⟩ = false := (hf4 _ _ (by first | omega | go_size)).trans (by first | (with_reducible assumption) | (go_simp; done) | (simp [*]; done))
              have hk4_0 : W3.heap.size < W4.heap.size := by omega
              have hl4_1_0 : W4.cell? ⟨wr.heap.size, 0, none⟩ = some (num kd) := (hc4 _ _ (by first | omega | go_size)).trans (by first | (with_reducible assumption) | go_cell)
              have hz4_1_0 : W4.frozen? ⟨wr.heap.size, 0, none⟩ = false := (hf4 _ _ (by first | omega | go_size)).trans (by first | (with_reducible assumption) | (go_simp; done) | (simp [*]; done))
              have hl4_1_1 : W4.cell? ⟨wr.heap.size, 1, none⟩ = some (by8 wd) := (hc4 _ _ (by first | omega | go_size)).trans (by first | (with_reducible assumption) | go_cell)
              have hz4_1_1 : W4.frozen? ⟨wr.heap.size, 1, none⟩ = false := (hf4 _ _ (by first | omega | go_size)).trans (by first | (with_reducible assumption) | (go_simp; done) | (simp [*]; done))
              have hl4_1_2 : W4.cell? ⟨wr.heap.size, 2, none⟩ = some (st S) := (hc4 _ _ (by first | omega | go_size)).trans (by first | (with_reducible assumption) | go_cell)
              have hz4_1_2 : W4.frozen? ⟨wr.heap.size, 2, none⟩ = false := (hf4 _ _ (by first | omega | go_size)).trans (by first | (with_reducible assumption) | (go_simp; done) | (simp [*]; done))
              have hl4_1_3 : W4.cell? ⟨wr.heap.size, 3, none⟩ = some (.bool true) := (hc4 _ _ (by first | omega | go_size)).trans (by first | (with_reducible assumption) | go_cell)
              have hz4_1_3 : W4.frozen? ⟨wr.heap.size, 3, none⟩ = false := (hf4 _ _ (by first | omega | go_size)).trans (by first | (with_reducible assumption) | (go_simp; done) | (simp [*]; done))
              have hk4_1 : wr.heap.size < W4.heap.size := by omega
              have hl4_2_0 : W4.cell? ⟨wr.heap.size + 1, 0, none⟩ = some (num K) := (hc4 _ _ (by first | omega | go_size)).trans (by first | (with_reducible assumption) | go_cell)
              have hz4_2_0 : W4.frozen? ⟨wr.heap.size + 1, 0, none⟩ = false := (hf4 _ _ (by first | omega | go_size)).trans (by first | (with_reducible assumption) | (go_simp; done) | (simp [*]; done))
              have hl4_2_1 : W4.cell? ⟨wr.heap.size + 1, 1, none⟩ = some (st O) := (hc4 _ _ (by first | omega | go_size)).trans (by first | (with_reducible assumption) | go_cell)
              have hz4_2_1 : W4.frozen? ⟨wr.heap.size + 1, 1, none⟩ = false := (hf4 _ _ (by first | omega | go_size)).trans (by first | (with_reducible assumption) | (go_simp; done) | (simp [*]; done))
              have hl4_2_2 : W4.cell? ⟨wr.heap.size + 1, 2, none⟩ = some (st G) := (hc4 _ _ (by first | omega | go_size)).trans (by first | (with_reducible assumption) | go_cell)
              have hz4_2_2 : W4.frozen? ⟨wr.heap.size + 1, 2, none⟩ = false := (hf4 _ _ (by first | omega | go_size)).trans (by first | (with_reducible assumption) | (go_simp; done) | (simp [*]; done))
              have hl4_2_3 : W4.cell? ⟨wr.heap.size + 1, 3, none⟩ = some (by8 s) := (hc4 _ _ (by first | omega | go_size)).trans (by first | (with_reducible assumption) | go_cell)
              have hz4_2_3 : W4.frozen? ⟨wr.heap.size + 1, 3, none⟩ = false := (hf4 _ _ (by first | omega | go_size)).trans (by first | (with_reducible assumption) | (go_simp; done) | (simp [*]; done))
              have hk4_2 : wr.heap.size + 1 < W4.heap.size := by omega
              clear hg4 hc4 hf4
              go_wp2_with fail
              go_meet
              exact ⟨by go_grown, by go_size, ⟨⟨by go_cell, by go_cell, by go_cell, by go_cell⟩, by first | (with_reducible assumption) | (go_simp; done) | (simp [*]; done), by first | (with_reducible assumption) | (go_simp; done) | (simp [*]; done), by first | (with_reducible assumption) | (go_simp; done) | (simp [*]; done), by first | (with_reducible assumption) | (go_simp; done) | (simp [*]; done)⟩, ⟨⟨by go_cell, by go_cell, by go_cell, by go_cell⟩, by first | (with_reducible assumption) | (go_simp; done) | (simp [*]; done), by first | (with_reducible assumption) | (go_simp; done) | (simp [*]; done), by first | (with_reducible assumption) | (go_simp; done) | (simp [*]; done), by first | (with_reducible assumption) | (go_simp; done) | (simp [*]; done)⟩, ⟨⟨by go_cell, by go_cell, by go_cell, by go_cell⟩, by first | (with_reducible assumption) | (go_simp; done) | (simp [*]; done), by first | (with_reducible assumption) | (go_simp; done) | (simp [*]; done), by first | (with_reducible assumption) | (go_simp; done) | (simp [*]; done), by first | (with_reducible assumption) | (go_simp; done) | (simp [*]; done)⟩⟩
      case rest =>
        obtain ⟨hbx, hsx, ⟨⟨x0, x1, x2, x3⟩, z0, z1, z2, z3⟩, ⟨⟨y0, y1, y2, y3⟩, q0, q1, q2, q3⟩, ⟨⟨t0, t1, t2, t3⟩, u0, u1, u2, u3⟩⟩ := hcut
        have hk0 : W3.heap.size < wc.heap.size := by omega
        have hk1 : wr.heap.size < wc.heap.size := by omega
        have hk2 : wr.heap.size + 1 < wc.heap.size := hsx
        clear m0 m1 m2 m3 n0 n1 n2 n3
        go_wp2_with fail
        refine (Pick.pick_some kd 3 (by omega) HKD.out _).mono ?_
        rintro e w' ⟨r, h0, h3, rfl, rfl⟩
        by_cases hr : r = 2
        · subst hr
          obtain ⟨G2, hG2⟩ : ∃ G2, askG K O G s1 S = G2 := ⟨_, rfl⟩
          have HV2 := Lib.hid (show validB K O G2 s1 = true from hG2 ▸ ask_valid S HV1.out)
          have HAsk := Lib.hid hG2
          have HN8 := Lib.hid (fun (h : hasb s1 8#8 = true) => show G2 = G from hG2 ▸ ask_fixed S h)
          have HN2 := Lib.hid (fun (h : hasb s1 2#8 = false) => show G2 = G from hG2 ▸ (by unfold askG askB; rw [h]; simp))
          have e0 : bits .andNot .u8 (nb s1) (nb s1) = 0 := by rw [y_andNot, self_out]; rfl
          clear hG2
          have cG : (nu G2 != nu G) = !(G2 == G) := by rw [bne, nu_beq]
          cases hdG : (G2 == G) with
          | false =>
            rw [hdG] at cG
            have hdG : ¬ G2 = G := by intro e; rw [e, beq_self_eq_true] at hdG; cases hdG
            have HC := Lib.hid (show (if validB K O G2 s1 then (0 : Int) else 2) = 0 by rw [HV2.out]; rfl)
            have HRun := Lib.hid (runs_eq HV2.out)
            have hok2 : okB s1 (acceptB K O G2) (G2 == 0#64) = true := by have h := HV2.out; rw [valid_ok, HO.out] at h; exact h
            have f8 : bits .and .u8 (nb s1) 8 = nb (s1 &&& 8#8) := y_and s1 8#8
            have f4 : bits .and .u8 (nb s1) 4 = nb (s1 &&& 4#8) := y_and s1 4#8
            have f2 : bits .and .u8 (nb s1) 2 = nb (s1 &&& 2#8) := y_and s1 2#8
            have f1 : bits .and .u8 (nb s1) 1 = nb (s1 &&& 1#8) := y_and s1 1#8
            have f196 : bits .and .u8 (nb s1) 196 = nb (s1 &&& 196#8) := y_and s1 196#8
            have g196 : (nb (s1 &&& 196#8) == 4) = (s1 &&& 196#8 == 4#8) := nb_beq _ 4#8
            have g8 := bits_of s1 8#8
            have k8 := bits_no s1 8#8
            have g4 := bits_of s1 4#8
            have g2 := bits_of s1 2#8
            have k1 := bits_no s1 1#8
            rcases four hok2 with ⟨b2, b8, b4⟩ | ⟨b2, b1, b8, b4⟩ | ⟨ba, b2, b1, b8, b4⟩ | ⟨ba, b2, b1, b8, b4⟩
            · as_aux_lemma =>
                rw [b8] at g8 k8; rw [b4] at g4; rw [b2] at g2
                exact absurd hdG (by rw [HN2.out b2]; simp)
            · as_aux_lemma =>
                rw [b8] at g8 k8; rw [b4] at g4; rw [b2] at g2; rw [b1] at k1
                clear hok2 b1 b2 b8 b4
                go_wp2_with fail
                refine (ask_is K O G s1 S G2 HAsk.out ad0 cap _ (HR.out.below (by go_grown))).mono ?_
                rintro eE W5 ⟨rfl, hg5⟩
                have hb5 : Below w.heap.size w W5 := (show Below w.heap.size w _ by go_grown).trans (hg5.mono (by first | omega | go_size))
                obtain ⟨hc5, hf5⟩ := bcell hg5
                have hs5 := hg5.size
                try simp only [World.size_alloc, World.size_setCell, World.size_drew] at hs5
                have hl5_0_0 : W5.cell? ⟨W3.heap.size, 0, none⟩ = some (num K) := (hc5 _ _ (by first | omega | go_size)).trans (by first | (with_reducible assumption) | go_cell)
                have hz5_0_0 : W5.frozen? ⟨W3.heap.size, 0, none⟩ = false := (hf5 _ _ (by first | omega | go_size)).trans (by first | (with_reducible assumption) | (go_simp; done) | (simp [*]; done))
                have hl5_0_1 : W5.cell? ⟨W3.heap.size, 1, none⟩ = some (st O) := (hc5 _ _ (by first | omega | go_size)).trans (by first | (with_reducible assumption) | go_cell)
                have hz5_0_1 : W5.frozen? ⟨W3.heap.size, 1, none⟩ = false := (hf5 _ _ (by first | omega | go_size)).trans (by first | (with_reducible assumption) | (go_simp; done) | (simp [*]; done))
                have hl5_0_2 : W5.cell? ⟨W3.heap.size, 2, none⟩ = some (st G) := (hc5 _ _ (by first | omega | go_size)).trans (by first | (with_reducible assumption) | go_cell)
                have hz5_0_2 : W5.frozen? ⟨W3.heap.size, 2, none⟩ = false := (hf5 _ _ (by first | omega | go_size)).trans (by first | (with_reducible assumption) | (go_simp; done) | (simp [*]; done))
                have hl5_0_3 : W5.cell? ⟨W3.heap.size, 3, none⟩ = some (by8 s1) := (hc5 _ _ (by first | omega | go_size)).trans (by first | (with_reducible assumption) | go_cell)
                have hz5_0_3 : W5.frozen? ⟨W3.heap.size, 3, none⟩ = false := (hf5 _ _ (by first | omega | go_size)).trans (by first | (with_reducible assumption) | (go_simp; done) | (simp [*]; done))
                have hk5_0 : W3.heap.size < W5.heap.size := by omega
                have hl5_1_0 : W5.cell? ⟨wr.heap.size, 0, none⟩ = some (num kd) := (hc5 _ _ (by first | omega | go_size)).trans (by first | (with_reducible assumption) | go_cell)
                have hz5_1_0 : W5.frozen? ⟨wr.heap.size, 0, none⟩ = false := (hf5 _ _ (by first | omega | go_size)).trans (by first | (with_reducible assumption) | (go_simp; done) | (simp [*]; done))
                have hl5_1_1 : W5.cell? ⟨wr.heap.size, 1, none⟩ = some (by8 wd) := (hc5 _ _ (by first | omega | go_size)).trans (by first | (with_reducible assumption) | go_cell)
                have hz5_1_1 : W5.frozen? ⟨wr.heap.size, 1, none⟩ = false := (hf5 _ _ (by first | omega | go_size)).trans (by first | (with_reducible assumption) | (go_simp; done) | (simp [*]; done))
                have hl5_1_2 : W5.cell? ⟨wr.heap.size, 2, none⟩ = some (st S) := (hc5 _ _ (by first | omega | go_size)).trans (by first | (with_reducible assumption) | go_cell)
                have hz5_1_2 : W5.frozen? ⟨wr.heap.size, 2, none⟩ = false := (hf5 _ _ (by first | omega | go_size)).trans (by first | (with_reducible assumption) | (go_simp; done) | (simp [*]; done))
                have hl5_1_3 : W5.cell? ⟨wr.heap.size, 3, none⟩ = some (.bool nd) := (hc5 _ _ (by first | omega | go_size)).trans (by first | (with_reducible assumption) | go_cell)
                have hz5_1_3 : W5.frozen? ⟨wr.heap.size, 3, none⟩ = false := (hf5 _ _ (by first | omega | go_size)).trans (by first | (with_reducible assumption) | (go_simp; done) | (simp [*]; done))
                have hk5_1 : wr.heap.size < W5.heap.size := by omega
                have hl5_2_0 : W5.cell? ⟨wr.heap.size + 1, 0, none⟩ = some (num K) := (hc5 _ _ (by first | omega | go_size)).trans (by first | (with_reducible assumption) | go_cell)
                have hz5_2_0 : W5.frozen? ⟨wr.heap.size + 1, 0, none⟩ = false := (hf5 _ _ (by first | omega | go_size)).trans (by first | (with_reducible assumption) | (go_simp; done) | (simp [*]; done))
                have hl5_2_1 : W5.cell? ⟨wr.heap.size + 1, 1, none⟩ = some (st O) := (hc5 _ _ (by first | omega | go_size)).trans (by first | (with_reducible assumption) | go_cell)
                have hz5_2_1 : W5.frozen? ⟨wr.heap.size + 1, 1, none⟩ = false := (hf5 _ _ (by first | omega | go_size)).trans (by first | (with_reducible assumption) | (go_simp; done) | (simp [*]; done))
                have hl5_2_2 : W5.cell? ⟨wr.heap.size + 1, 2, none⟩ = some (st G) := (hc5 _ _ (by first | omega | go_size)).trans (by first | (with_reducible assumption) | go_cell)
                have hz5_2_2 : W5.frozen? ⟨wr.heap.size + 1, 2, none⟩ = false := (hf5 _ _ (by first | omega | go_size)).trans (by first | (with_reducible assumption) | (go_simp; done) | (simp [*]; done))
                have hl5_2_3 : W5.cell? ⟨wr.heap.size + 1, 3, none⟩ = some (by8 s1) := (hc5 _ _ (by first | omega | go_size)).trans (by first | (with_reducible assumption) | go_cell)
                have hz5_2_3 : W5.frozen? ⟨wr.heap.size + 1, 3, none⟩ = false := (hf5 _ _ (by first | omega | go_size)).trans (by first | (with_reducible assumption) | (go_simp; done) | (simp [*]; done))
                have hk5_2 : wr.heap.size + 1 < W5.heap.size := by omega
                clear hg5 hc5 hf5
                go_wp2_with fail
                refine (check_is K O G2 s1 0 HC.out ad0 cap _ (HR.out.below (by go_grown))).mono ?_
                rintro eE W6 ⟨rfl, hg6⟩
                have hb6 : Below w.heap.size w W6 := (show Below w.heap.size w _ by go_grown).trans (hg6.mono (by first | omega | go_size))
                obtain ⟨hc6, hf6⟩ := bcell hg6
                have hs6 := hg6.size
                try simp only [World.size_alloc, World.size_setCell, World.size_drew] at hs6
                have hl6_0_0 : W6.cell? ⟨W3.heap.size, 0, none⟩ = some (num K) := (hc6 _ _ (by first | omega | go_size)).trans (by first | (with_reducible assumption) | go_cell)
                have hz6_0_0 : W6.frozen? ⟨W3.heap.size, 0, none⟩ = false := (hf6 _ _ (by first | omega | go_size)).trans (by first | (with_reducible assumption) | (go_simp; done) | (simp [*]; done))
                have hl6_0_1 : W6.cell? ⟨W3.heap.size, 1, none⟩ = some (st O) := (hc6 _ _ (by first | omega | go_size)).trans (by first | (with_reducible assumption) | go_cell)
                have hz6_0_1 : W6.frozen? ⟨W3.heap.size, 1, none⟩ = false := (hf6 _ _ (by first | omega | go_size)).trans (by first | (with_reducible assumption) | (go_simp; done) | (simp [*]; done))
                have hl6_0_2 : W6.cell? ⟨W3.heap.size, 2, none⟩ = some (st G2) := (hc6 _ _ (by first | omega | go_size)).trans (by first | (with_reducible assumption) | go_cell)
                have hz6_0_2 : W6.frozen? ⟨W3.heap.size, 2, none⟩ = false := (hf6 _ _ (by first | omega | go_size)).trans (by first | (with_reducible assumption) | (go_simp; done) | (simp [*]; done))
                have hl6_0_3 : W6.cell? ⟨W3.heap.size, 3, none⟩ = some (by8 s1) := (hc6 _ _ (by first | omega | go_size)).trans (by first | (with_reducible assumption) | go_cell)
                have hz6_0_3 : W6.frozen? ⟨W3.heap.size, 3, none⟩ = false := (hf6 _ _ (by first | omega | go_size)).trans (by first | (with_reducible assumption) | (go_simp; done) | (simp [*]; done))
                have hk6_0 : W3.heap.size < W6.heap.size := by omega
                have hl6_1_0 : W6.cell? ⟨wr.heap.size, 0, none⟩ = some (num kd) := (hc6 _ _ (by first | omega | go_size)).trans (by first | (with_reducible assumption) | go_cell)
                have hz6_1_0 : W6.frozen? ⟨wr.heap.size, 0, none⟩ = false := (hf6 _ _ (by first | omega | go_size)).trans (by first | (with_reducible assumption) | (go_simp; done) | (simp [*]; done))
                have hl6_1_1 : W6.cell? ⟨wr.heap.size, 1, none⟩ = some (by8 wd) := (hc6 _ _ (by first | omega | go_size)).trans (by first | (with_reducible assumption) | go_cell)
                have hz6_1_1 : W6.frozen? ⟨wr.heap.size, 1, none⟩ = false := (hf6 _ _ (by first | omega | go_size)).trans (by first | (with_reducible assumption) | (go_simp; done) | (simp [*]; done))
                have hl6_1_2 : W6.cell? ⟨wr.heap.size, 2, none⟩ = some (st S) := (hc6 _ _ (by first | omega | go_size)).trans (by first | (with_reducible assumption) | go_cell)
                have hz6_1_2 : W6.frozen? ⟨wr.heap.size, 2, none⟩ = false := (hf6 _ _ (by first | omega | go_size)).trans (by first | (with_reducible assumption) | (go_simp; done) | (simp [*]; done))
                have hl6_1_3 : W6.cell? ⟨wr.heap.size, 3, none⟩ = some (.bool nd) := (hc6 _ _ (by first | omega | go_size)).trans (by first | (with_reducible assumption) | go_cell)
                have hz6_1_3 : W6.frozen? ⟨wr.heap.size, 3, none⟩ = false := (hf6 _ _ (by first | omega | go_size)).trans (by first | (with_reducible assumption) | (go_simp; done) | (simp [*]; done))
                have hk6_1 : wr.heap.size < W6.heap.size := by omega
                have hl6_2_0 : W6.cell? ⟨wr.heap.size + 1, 0, none⟩ = some (num K) := (hc6 _ _ (by first | omega | go_size)).trans (by first | (with_reducible assumption) | go_cell)
                have hz6_2_0 : W6.frozen? ⟨wr.heap.size + 1, 0, none⟩ = false := (hf6 _ _ (by first | omega | go_size)).trans (by first | (with_reducible assumption) | (go_simp; done) | (simp [*]; done))
                have hl6_2_1 : W6.cell? ⟨wr.heap.size + 1, 1, none⟩ = some (st O) := (hc6 _ _ (by first | omega | go_size)).trans (by first | (with_reducible assumption) | go_cell)
                have hz6_2_1 : W6.frozen? ⟨wr.heap.size + 1, 1, none⟩ = false := (hf6 _ _ (by first | omega | go_size)).trans (by first | (with_reducible assumption) | (go_simp; done) | (simp [*]; done))
                have hl6_2_2 : W6.cell? ⟨wr.heap.size + 1, 2, none⟩ = some (st G) := (hc6 _ _ (by first | omega | go_size)).trans (by first | (with_reducible assumption) | go_cell)
                have hz6_2_2 : W6.frozen? ⟨wr.heap.size + 1, 2, none⟩ = false := (hf6 _ _ (by first | omega | go_size)).trans (by first | (with_reducible assumption) | (go_simp; done) | (simp [*]; done))
                have hl6_2_3 : W6.cell? ⟨wr.heap.size + 1, 3, none⟩ = some (by8 s1) := (hc6 _ _ (by first | omega | go_size)).trans (by first | (with_reducible assumption) | go_cell)
                have hz6_2_3 : W6.frozen? ⟨wr.heap.size + 1, 3, none⟩ = false := (hf6 _ _ (by first | omega | go_size)).trans (by first | (with_reducible assumption) | (go_simp; done) | (simp [*]; done))
                have hk6_2 : wr.heap.size + 1 < W6.heap.size := by omega
                clear hg6 hc6 hf6
                go_wp2_with fail
                refine Lib.wp_region_class (Lib.Held w _ [(W3.heap.size, 0, (num K : Value)), (W3.heap.size, 1, (st O : Value)), (W3.heap.size, 2, (st G2 : Value)), (W3.heap.size, 3, (by8 s1 : Value)), (wr.heap.size, 0, (num kd : Value)), (wr.heap.size, 1, (by8 wd : Value)), (wr.heap.size, 2, (st S : Value)), (wr.heap.size, 3, (.bool nd : Value)), (wr.heap.size + 1, 0, (num K : Value)), (wr.heap.size + 1, 1, (st O : Value)), (wr.heap.size + 1, 2, (st G : Value)), (wr.heap.size + 1, 3, (by8 s1 : Value))]) (by kernel_rfl) (by kernel_rfl) ⟨by go_grown, Below.refl _ _, ⟨by first | omega | go_size, by first | go_cell | (simp [*]; done), by first | (with_reducible assumption) | (go_simp; done) | (simp [*]; done)⟩, ⟨by first | omega | go_size, by first | go_cell | (simp [*]; done), by first | (with_reducible assumption) | (go_simp; done) | (simp [*]; done)⟩, ⟨by first | omega | go_size, by first | go_cell | (simp [*]; done), by first | (with_reducible assumption) | (go_simp; done) | (simp [*]; done)⟩, ⟨by first | omega | go_size, by first | go_cell | (simp [*]; done), by first | (with_reducible assumption) | (go_simp; done) | (simp [*]; done)⟩, ⟨by first | omega | go_size, by first | go_cell | (simp [*]; done), by first | (with_reducible assumption) | (go_simp; done) | (simp [*]; done)⟩, ⟨by first | omega | go_size, by first | go_cell | (simp [*]; done), by first | (with_reducible assumption) | (go_simp; done) | (simp [*]; done)⟩, ⟨by first | omega | go_size, by first | go_cell | (simp [*]; done), by first | (with_reducible assumption) | (go_simp; done) | (simp [*]; done)⟩, ⟨by first | omega | go_size, by first | go_cell | (simp [*]; done), by first | (with_reducible assumption) | (go_simp; done) | (simp [*]; done)⟩, ⟨by first | omega | go_size, by first | go_cell | (simp [*]; done), by first | (with_reducible assumption) | (go_simp; done) | (simp [*]; done)⟩, ⟨by first | omega | go_size, by first | go_cell | (simp [*]; done), by first | (with_reducible assumption) | (go_simp; done) | (simp [*]; done)⟩, ⟨by first | omega | go_size, by first | go_cell | (simp [*]; done), by first | (with_reducible assumption) | (go_simp; done) | (simp [*]; done)⟩, ⟨by first | omega | go_size, by first | go_cell | (simp [*]; done), by first | (with_reducible assumption) | (go_simp; done) | (simp [*]; done)⟩, trivial⟩ ?_
                repeat (first | go_big_quiet_step ((intro hq; first | rfl | (go_at_call 12; exact Lib.Held.call hq (runs_is K O G2 s1 _ HRun.out ad0 cap _ (HR.out.below hq.1))) | (have hq' := hq; obtain ⟨hbq, heq, ⟨hkq_0, hlq_0, hzq_0⟩, ⟨hkq_1, hlq_1, hzq_1⟩, ⟨hkq_2, hlq_2, hzq_2⟩, ⟨hkq_3, hlq_3, hzq_3⟩, ⟨hkq_4, hlq_4, hzq_4⟩, ⟨hkq_5, hlq_5, hzq_5⟩, ⟨hkq_6, hlq_6, hzq_6⟩, ⟨hkq_7, hlq_7, hzq_7⟩, ⟨hkq_8, hlq_8, hzq_8⟩, ⟨hkq_9, hlq_9, hzq_9⟩, ⟨hkq_10, hlq_10, hzq_10⟩, ⟨hkq_11, hlq_11, hzq_11⟩, _⟩ := hq'; go_simp; rfl))) | quiet_step ((intro hq; first | rfl | (go_at_call 12; exact Lib.Held.call hq (runs_is K O G2 s1 _ HRun.out ad0 cap _ (HR.out.below hq.1))) | (have hq' := hq; obtain ⟨hbq, heq, ⟨hkq_0, hlq_0, hzq_0⟩, ⟨hkq_1, hlq_1, hzq_1⟩, ⟨hkq_2, hlq_2, hzq_2⟩, ⟨hkq_3, hlq_3, hzq_3⟩, ⟨hkq_4, hlq_4, hzq_4⟩, ⟨hkq_5, hlq_5, hzq_5⟩, ⟨hkq_6, hlq_6, hzq_6⟩, ⟨hkq_7, hlq_7, hzq_7⟩, ⟨hkq_8, hlq_8, hzq_8⟩, ⟨hkq_9, hlq_9, hzq_9⟩, ⟨hkq_10, hlq_10, hzq_10⟩, ⟨hkq_11, hlq_11, hzq_11⟩, _⟩ := hq'; go_simp; rfl))))
                refine wpQuiet_nil ?_
                intro W8 hq8
                obtain ⟨hb8, he8, ⟨hk8_0, hl8_0, hz8_0⟩, ⟨hk8_1, hl8_1, hz8_1⟩, ⟨hk8_2, hl8_2, hz8_2⟩, ⟨hk8_3, hl8_3, hz8_3⟩, ⟨hk8_4, hl8_4, hz8_4⟩, ⟨hk8_5, hl8_5, hz8_5⟩, ⟨hk8_6, hl8_6, hz8_6⟩, ⟨hk8_7, hl8_7, hz8_7⟩, ⟨hk8_8, hl8_8, hz8_8⟩, ⟨hk8_9, hl8_9, hz8_9⟩, ⟨hk8_10, hl8_10, hz8_10⟩, ⟨hk8_11, hl8_11, hz8_11⟩, _⟩ := hq8
                have hs8 := he8.size
                try simp only [World.size_alloc, World.size_setCell, World.size_drew] at hs8
                go_wp2_with fail
                go_roundw
                case rel => exact ⟨j + 1, G2, s1, by omega, by go_num, HV2.out, by go_grown, by go_size, ⟨⟨by go_cell, by go_cell, by go_cell, by go_cell⟩, by first | (with_reducible assumption) | (go_simp; done) | (simp [*]; done), by first | (with_reducible assumption) | (go_simp; done) | (simp [*]; done), by first | (with_reducible assumption) | (go_simp; done) | (simp [*]; done), by first | (with_reducible assumption) | (go_simp; done) | (simp [*]; done)⟩⟩
                case measure => simp [intOf]; omega
            · as_aux_lemma =>
                rw [b8] at g8 k8; rw [b4] at g4; rw [b2] at g2; rw [b1] at k1
                exact absurd hdG (by rw [HN8.out b8]; simp)
            · as_aux_lemma =>
                rw [b8] at g8 k8; rw [b4] at g4; rw [b2] at g2; rw [b1] at k1
                exact absurd hdG (by rw [HN8.out b8]; simp)
          | true =>
            rw [hdG] at cG
            clear hdG
            have HC := Lib.hid (show (if validB K O G2 s1 then (0 : Int) else 2) = 0 by rw [HV2.out]; rfl)
            have HRun := Lib.hid (runs_eq HV2.out)
            have hok2 : okB s1 (acceptB K O G2) (G2 == 0#64) = true := by have h := HV2.out; rw [valid_ok, HO.out] at h; exact h
            have f8 : bits .and .u8 (nb s1) 8 = nb (s1 &&& 8#8) := y_and s1 8#8
            have f4 : bits .and .u8 (nb s1) 4 = nb (s1 &&& 4#8) := y_and s1 4#8
            have f2 : bits .and .u8 (nb s1) 2 = nb (s1 &&& 2#8) := y_and s1 2#8
            have f1 : bits .and .u8 (nb s1) 1 = nb (s1 &&& 1#8) := y_and s1 1#8
            have f196 : bits .and .u8 (nb s1) 196 = nb (s1 &&& 196#8) := y_and s1 196#8
            have g196 : (nb (s1 &&& 196#8) == 4) = (s1 &&& 196#8 == 4#8) := nb_beq _ 4#8
            have g8 := bits_of s1 8#8
            have k8 := bits_no s1 8#8
            have g4 := bits_of s1 4#8
            have g2 := bits_of s1 2#8
            have k1 := bits_no s1 1#8
            rcases four hok2 with ⟨b2, b8, b4⟩ | ⟨b2, b1, b8, b4⟩ | ⟨ba, b2, b1, b8, b4⟩ | ⟨ba, b2, b1, b8, b4⟩
            · as_aux_lemma =>
                rw [b8] at g8 k8; rw [b4] at g4; rw [b2] at g2
                clear hok2 b2 b8 b4
                go_wp2_with fail
                refine (ask_is K O G s1 S G2 HAsk.out ad0 cap _ (HR.out.below (by go_grown))).mono ?_
                rintro eE W5 ⟨rfl, hg5⟩
                have hb5 : Below w.heap.size w W5 := (show Below w.heap.size w _ by go_grown).trans (hg5.mono (by first | omega | go_size))
                obtain ⟨hc5, hf5⟩ := bcell hg5
                have hs5 := hg5.size
                try simp only [World.size_alloc, World.size_setCell, World.size_drew] at hs5
                have hl5_0_0 : W5.cell? ⟨W3.heap.size, 0, none⟩ = some (num K) := (hc5 _ _ (by first | omega | go_size)).trans (by first | (with_reducible assumption) | go_cell)
                have hz5_0_0 : W5.frozen? ⟨W3.heap.size, 0, none⟩ = false := (hf5 _ _ (by first | omega | go_size)).trans (by first | (with_reducible assumption) | (go_simp; done) | (simp [*]; done))
                have hl5_0_1 : W5.cell? ⟨W3.heap.size, 1, none⟩ = some (st O) := (hc5 _ _ (by first | omega | go_size)).trans (by first | (with_reducible assumption) | go_cell)
                have hz5_0_1 : W5.frozen? ⟨W3.heap.size, 1, none⟩ = false := (hf5 _ _ (by first | omega | go_size)).trans (by first | (with_reducible assumption) | (go_simp; done) | (simp [*]; done))
                have hl5_0_2 : W5.cell? ⟨W3.heap.size, 2, none⟩ = some (st G) := (hc5 _ _ (by first | omega | go_size)).trans (by first | (with_reducible assumption) | go_cell)
                have hz5_0_2 : W5.frozen? ⟨W3.heap.size, 2, none⟩ = false := (hf5 _ _ (by first | omega | go_size)).trans (by first | (with_reducible assumption) | (go_simp; done) | (simp [*]; done))
                have hl5_0_3 : W5.cell? ⟨W3.heap.size, 3, none⟩ = some (by8 s1) := (hc5 _ _ (by first | omega | go_size)).trans (by first | (with_reducible assumption) | go_cell)
                have hz5_0_3 : W5.frozen? ⟨W3.heap.size, 3, none⟩ = false := (hf5 _ _ (by first | omega | go_size)).trans (by first | (with_reducible assumption) | (go_simp; done) | (simp [*]; done))
                have hk5_0 : W3.heap.size < W5.heap.size := by omega
                have hl5_1_0 : W5.cell? ⟨wr.heap.size, 0, none⟩ = some (num kd) := (hc5 _ _ (by first | omega | go_size)).trans (by first | (with_reducible assumption) | go_cell)
                have hz5_1_0 : W5.frozen? ⟨wr.heap.size, 0, none⟩ = false := (hf5 _ _ (by first | omega | go_size)).trans (by first | (with_reducible assumption) | (go_simp; done) | (simp [*]; done))
                have hl5_1_1 : W5.cell? ⟨wr.heap.size, 1, none⟩ = some (by8 wd) := (hc5 _ _ (by first | omega | go_size)).trans (by first | (with_reducible assumption) | go_cell)
                have hz5_1_1 : W5.frozen? ⟨wr.heap.size, 1, none⟩ = false := (hf5 _ _ (by first | omega | go_size)).trans (by first | (with_reducible assumption) | (go_simp; done) | (simp [*]; done))
                have hl5_1_2 : W5.cell? ⟨wr.heap.size, 2, none⟩ = some (st S) := (hc5 _ _ (by first | omega | go_size)).trans (by first | (with_reducible assumption) | go_cell)
                have hz5_1_2 : W5.frozen? ⟨wr.heap.size, 2, none⟩ = false := (hf5 _ _ (by first | omega | go_size)).trans (by first | (with_reducible assumption) | (go_simp; done) | (simp [*]; done))
                have hl5_1_3 : W5.cell? ⟨wr.heap.size, 3, none⟩ = some (.bool nd) := (hc5 _ _ (by first | omega | go_size)).trans (by first | (with_reducible assumption) | go_cell)
                have hz5_1_3 : W5.frozen? ⟨wr.heap.size, 3, none⟩ = false := (hf5 _ _ (by first | omega | go_size)).trans (by first | (with_reducible assumption) | (go_simp; done) | (simp [*]; done))
                have hk5_1 : wr.heap.size < W5.heap.size := by omega
                have hl5_2_0 : W5.cell? ⟨wr.heap.size + 1, 0, none⟩ = some (num K) := (hc5 _ _ (by first | omega | go_size)).trans (by first | (with_reducible assumption) | go_cell)
                have hz5_2_0 : W5.frozen? ⟨wr.heap.size + 1, 0, none⟩ = false := (hf5 _ _ (by first | omega | go_size)).trans (by first | (with_reducible assumption) | (go_simp; done) | (simp [*]; done))
                have hl5_2_1 : W5.cell? ⟨wr.heap.size + 1, 1, none⟩ = some (st O) := (hc5 _ _ (by first | omega | go_size)).trans (by first | (with_reducible assumption) | go_cell)
                have hz5_2_1 : W5.frozen? ⟨wr.heap.size + 1, 1, none⟩ = false := (hf5 _ _ (by first | omega | go_size)).trans (by first | (with_reducible assumption) | (go_simp; done) | (simp [*]; done))
                have hl5_2_2 : W5.cell? ⟨wr.heap.size + 1, 2, none⟩ = some (st G) := (hc5 _ _ (by first | omega | go_size)).trans (by first | (with_reducible assumption) | go_cell)
                have hz5_2_2 : W5.frozen? ⟨wr.heap.size + 1, 2, none⟩ = false := (hf5 _ _ (by first | omega | go_size)).trans (by first | (with_reducible assumption) | (go_simp; done) | (simp [*]; done))
                have hl5_2_3 : W5.cell? ⟨wr.heap.size + 1, 3, none⟩ = some (by8 s1) := (hc5 _ _ (by first | omega | go_size)).trans (by first | (with_reducible assumption) | go_cell)
                have hz5_2_3 : W5.frozen? ⟨wr.heap.size + 1, 3, none⟩ = false := (hf5 _ _ (by first | omega | go_size)).trans (by first | (with_reducible assumption) | (go_simp; done) | (simp [*]; done))
                have hk5_2 : wr.heap.size + 1 < W5.heap.size := by omega
                clear hg5 hc5 hf5
                go_wp2_with fail
                refine (check_is K O G2 s1 0 HC.out ad0 cap _ (HR.out.below (by go_grown))).mono ?_
                rintro eE W6 ⟨rfl, hg6⟩
                have hb6 : Below w.heap.size w W6 := (show Below w.heap.size w _ by go_grown).trans (hg6.mono (by first | omega | go_size))
                obtain ⟨hc6, hf6⟩ := bcell hg6
                have hs6 := hg6.size
                try simp only [World.size_alloc, World.size_setCell, World.size_drew] at hs6
                have hl6_0_0 : W6.cell? ⟨W3.heap.size, 0, none⟩ = some (num K) := (hc6 _ _ (by first | omega | go_size)).trans (by first | (with_reducible assumption) | go_cell)
                have hz6_0_0 : W6.frozen? ⟨W3.heap.size, 0, none⟩ = false := (hf6 _ _ (by first | omega | go_size)).trans (by first | (with_reducible assumption) | (go_simp; done) | (simp [*]; done))
                have hl6_0_1 : W6.cell? ⟨W3.heap.size, 1, none⟩ = some (st O) := (hc6 _ _ (by first | omega | go_size)).trans (by first | (with_reducible assumption) | go_cell)
                have hz6_0_1 : W6.frozen? ⟨W3.heap.size, 1, none⟩ = false := (hf6 _ _ (by first | omega | go_size)).trans (by first | (with_reducible assumption) | (go_simp; done) | (simp [*]; done))
                have hl6_0_2 : W6.cell? ⟨W3.heap.size, 2, none⟩ = some (st G2) := (hc6 _ _ (by first | omega | go_size)).trans (by first | (with_reducible assumption) | go_cell)
                have hz6_0_2 : W6.frozen? ⟨W3.heap.size, 2, none⟩ = false := (hf6 _ _ (by first | omega | go_size)).trans (by first | (with_reducible assumption) | (go_simp; done) | (simp [*]; done))
                have hl6_0_3 : W6.cell? ⟨W3.heap.size, 3, none⟩ = some (by8 s1) := (hc6 _ _ (by first | omega | go_size)).trans (by first | (with_reducible assumption) | go_cell)
                have hz6_0_3 : W6.frozen? ⟨W3.heap.size, 3, none⟩ = false := (hf6 _ _ (by first | omega | go_size)).trans (by first | (with_reducible assumption) | (go_simp; done) | (simp [*]; done))
                have hk6_0 : W3.heap.size < W6.heap.size := by omega
                have hl6_1_0 : W6.cell? ⟨wr.heap.size, 0, none⟩ = some (num kd) := (hc6 _ _ (by first | omega | go_size)).trans (by first | (with_reducible assumption) | go_cell)
                have hz6_1_0 : W6.frozen? ⟨wr.heap.size, 0, none⟩ = false := (hf6 _ _ (by first | omega | go_size)).trans (by first | (with_reducible assumption) | (go_simp; done) | (simp [*]; done))
                have hl6_1_1 : W6.cell? ⟨wr.heap.size, 1, none⟩ = some (by8 wd) := (hc6 _ _ (by first | omega | go_size)).trans (by first | (with_reducible assumption) | go_cell)
                have hz6_1_1 : W6.frozen? ⟨wr.heap.size, 1, none⟩ = false := (hf6 _ _ (by first | omega | go_size)).trans (by first | (with_reducible assumption) | (go_simp; done) | (simp [*]; done))
                have hl6_1_2 : W6.cell? ⟨wr.heap.size, 2, none⟩ = some (st S) := (hc6 _ _ (by first | omega | go_size)).trans (by first | (with_reducible assumption) | go_cell)
                have hz6_1_2 : W6.frozen? ⟨wr.heap.size, 2, none⟩ = false := (hf6 _ _ (by first | omega | go_size)).trans (by first | (with_reducible assumption) | (go_simp; done) | (simp [*]; done))
                have hl6_1_3 : W6.cell? ⟨wr.heap.size, 3, none⟩ = some (.bool nd) := (hc6 _ _ (by first | omega | go_size)).trans (by first | (with_reducible assumption) | go_cell)
                have hz6_1_3 : W6.frozen? ⟨wr.heap.size, 3, none⟩ = false := (hf6 _ _ (by first | omega | go_size)).trans (by first | (with_reducible assumption) | (go_simp; done) | (simp [*]; done))
                have hk6_1 : wr.heap.size < W6.heap.size := by omega
                have hl6_2_0 : W6.cell? ⟨wr.heap.size + 1, 0, none⟩ = some (num K) := (hc6 _ _ (by first | omega | go_size)).trans (by first | (with_reducible assumption) | go_cell)
                have hz6_2_0 : W6.frozen? ⟨wr.heap.size + 1, 0, none⟩ = false := (hf6 _ _ (by first | omega | go_size)).trans (by first | (with_reducible assumption) | (go_simp; done) | (simp [*]; done))
                have hl6_2_1 : W6.cell? ⟨wr.heap.size + 1, 1, none⟩ = some (st O) := (hc6 _ _ (by first | omega | go_size)).trans (by first | (with_reducible assumption) | go_cell)
                have hz6_2_1 : W6.frozen? ⟨wr.heap.size + 1, 1, none⟩ = false := (hf6 _ _ (by first | omega | go_size)).trans (by first | (with_reducible assumption) | (go_simp; done) | (simp [*]; done))
                have hl6_2_2 : W6.cell? ⟨wr.heap.size + 1, 2, none⟩ = some (st G) := (hc6 _ _ (by first | omega | go_size)).trans (by first | (with_reducible assumption) | go_cell)
                have hz6_2_2 : W6.frozen? ⟨wr.heap.size + 1, 2, none⟩ = false := (hf6 _ _ (by first | omega | go_size)).trans (by first | (with_reducible assumption) | (go_simp; done) | (simp [*]; done))
                have hl6_2_3 : W6.cell? ⟨wr.heap.size + 1, 3, none⟩ = some (by8 s1) := (hc6 _ _ (by first | omega | go_size)).trans (by first | (with_reducible assumption) | go_cell)
                have hz6_2_3 : W6.frozen? ⟨wr.heap.size + 1, 3, none⟩ = false := (hf6 _ _ (by first | omega | go_size)).trans (by first | (with_reducible assumption) | (go_simp; done) | (simp [*]; done))
                have hk6_2 : wr.heap.size + 1 < W6.heap.size := by omega
                clear hg6 hc6 hf6
                go_wp2_with fail
                refine Lib.wp_region_class (Lib.Held w _ [(W3.heap.size, 0, (num K : Value)), (W3.heap.size, 1, (st O : Value)), (W3.heap.size, 2, (st G2 : Value)), (W3.heap.size, 3, (by8 s1 : Value)), (wr.heap.size, 0, (num kd : Value)), (wr.heap.size, 1, (by8 wd : Value)), (wr.heap.size, 2, (st S : Value)), (wr.heap.size, 3, (.bool nd : Value)), (wr.heap.size + 1, 0, (num K : Value)), (wr.heap.size + 1, 1, (st O : Value)), (wr.heap.size + 1, 2, (st G : Value)), (wr.heap.size + 1, 3, (by8 s1 : Value))]) (by kernel_rfl) (by kernel_rfl) ⟨by go_grown, Below.refl _ _, ⟨by first | omega | go_size, by first | go_cell | (simp [*]; done), by first | (with_reducible assumption) | (go_simp; done) | (simp [*]; done)⟩, ⟨by first | omega | go_size, by first | go_cell | (simp [*]; done), by first | (with_reducible assumption) | (go_simp; done) | (simp [*]; done)⟩, ⟨by first | omega | go_size, by first | go_cell | (simp [*]; done), by first | (with_reducible assumption) | (go_simp; done) | (simp [*]; done)⟩, ⟨by first | omega | go_size, by first | go_cell | (simp [*]; done), by first | (with_reducible assumption) | (go_simp; done) | (simp [*]; done)⟩, ⟨by first | omega | go_size, by first | go_cell | (simp [*]; done), by first | (with_reducible assumption) | (go_simp; done) | (simp [*]; done)⟩, ⟨by first | omega | go_size, by first | go_cell | (simp [*]; done), by first | (with_reducible assumption) | (go_simp; done) | (simp [*]; done)⟩, ⟨by first | omega | go_size, by first | go_cell | (simp [*]; done), by first | (with_reducible assumption) | (go_simp; done) | (simp [*]; done)⟩, ⟨by first | omega | go_size, by first | go_cell | (simp [*]; done), by first | (with_reducible assumption) | (go_simp; done) | (simp [*]; done)⟩, ⟨by first | omega | go_size, by first | go_cell | (simp [*]; done), by first | (with_reducible assumption) | (go_simp; done) | (simp [*]; done)⟩, ⟨by first | omega | go_size, by first | go_cell | (simp [*]; done), by first | (with_reducible assumption) | (go_simp; done) | (simp [*]; done)⟩, ⟨by first | omega | go_size, by first | go_cell | (simp [*]; done), by first | (with_reducible assumption) | (go_simp; done) | (simp [*]; done)⟩, ⟨by first | omega | go_size, by first | go_cell | (simp [*]; done), by first | (with_reducible assumption) | (go_simp; done) | (simp [*]; done)⟩, trivial⟩ ?_
                repeat (first | go_big_quiet_step ((intro hq; first | rfl | (go_at_call 12; exact Lib.Held.call hq (runs_is K O G2 s1 _ HRun.out ad0 cap _ (HR.out.below hq.1))) | (have hq' := hq; obtain ⟨hbq, heq, ⟨hkq_0, hlq_0, hzq_0⟩, ⟨hkq_1, hlq_1, hzq_1⟩, ⟨hkq_2, hlq_2, hzq_2⟩, ⟨hkq_3, hlq_3, hzq_3⟩, ⟨hkq_4, hlq_4, hzq_4⟩, ⟨hkq_5, hlq_5, hzq_5⟩, ⟨hkq_6, hlq_6, hzq_6⟩, ⟨hkq_7, hlq_7, hzq_7⟩, ⟨hkq_8, hlq_8, hzq_8⟩, ⟨hkq_9, hlq_9, hzq_9⟩, ⟨hkq_10, hlq_10, hzq_10⟩, ⟨hkq_11, hlq_11, hzq_11⟩, _⟩ := hq'; go_simp; rfl))) | quiet_step ((intro hq; first | rfl | (go_at_call 12; exact Lib.Held.call hq (runs_is K O G2 s1 _ HRun.out ad0 cap _ (HR.out.below hq.1))) | (have hq' := hq; obtain ⟨hbq, heq, ⟨hkq_0, hlq_0, hzq_0⟩, ⟨hkq_1, hlq_1, hzq_1⟩, ⟨hkq_2, hlq_2, hzq_2⟩, ⟨hkq_3, hlq_3, hzq_3⟩, ⟨hkq_4, hlq_4, hzq_4⟩, ⟨hkq_5, hlq_5, hzq_5⟩, ⟨hkq_6, hlq_6, hzq_6⟩, ⟨hkq_7, hlq_7, hzq_7⟩, ⟨hkq_8, hlq_8, hzq_8⟩, ⟨hkq_9, hlq_9, hzq_9⟩, ⟨hkq_10, hlq_10, hzq_10⟩, ⟨hkq_11, hlq_11, hzq_11⟩, _⟩ := hq'; go_simp; rfl))))
                refine wpQuiet_nil ?_
                intro W8 hq8
                obtain ⟨hb8, he8, ⟨hk8_0, hl8_0, hz8_0⟩, ⟨hk8_1, hl8_1, hz8_1⟩, ⟨hk8_2, hl8_2, hz8_2⟩, ⟨hk8_3, hl8_3, hz8_3⟩, ⟨hk8_4, hl8_4, hz8_4⟩, ⟨hk8_5, hl8_5, hz8_5⟩, ⟨hk8_6, hl8_6, hz8_6⟩, ⟨hk8_7, hl8_7, hz8_7⟩, ⟨hk8_8, hl8_8, hz8_8⟩, ⟨hk8_9, hl8_9, hz8_9⟩, ⟨hk8_10, hl8_10, hz8_10⟩, ⟨hk8_11, hl8_11, hz8_11⟩, _⟩ := hq8
                have hs8 := he8.size
                try simp only [World.size_alloc, World.size_setCell, World.size_drew] at hs8
                go_wp2_with fail
                go_roundw
                case rel => exact ⟨j + 1, G2, s1, by omega, by go_num, HV2.out, by go_grown, by go_size, ⟨⟨by go_cell, by go_cell, by go_cell, by go_cell⟩, by first | (with_reducible assumption) | (go_simp; done) | (simp [*]; done), by first | (with_reducible assumption) | (go_simp; done) | (simp [*]; done), by first | (with_reducible assumption) | (go_simp; done) | (simp [*]; done), by first | (with_reducible assumption) | (go_simp; done) | (simp [*]; done)⟩⟩
                case measure => simp [intOf]; omega
            · as_aux_lemma =>
                rw [b8] at g8 k8; rw [b4] at g4; rw [b2] at g2; rw [b1] at k1
                clear hok2 b1 b2 b8 b4
                go_wp2_with fail
                refine (ask_is K O G s1 S G2 HAsk.out ad0 cap _ (HR.out.below (by go_grown))).mono ?_
                rintro eE W5 ⟨rfl, hg5⟩
                have hb5 : Below w.heap.size w W5 := (show Below w.heap.size w _ by go_grown).trans (hg5.mono (by first | omega | go_size))
                obtain ⟨hc5, hf5⟩ := bcell hg5
                have hs5 := hg5.size
                try simp only [World.size_alloc, World.size_setCell, World.size_drew] at hs5
                have hl5_0_0 : W5.cell? ⟨W3.heap.size, 0, none⟩ = some (num K) := (hc5 _ _ (by first | omega | go_size)).trans (by first | (with_reducible assumption) | go_cell)
                have hz5_0_0 : W5.frozen? ⟨W3.heap.size, 0, none⟩ = false := (hf5 _ _ (by first | omega | go_size)).trans (by first | (with_reducible assumption) | (go_simp; done) | (simp [*]; done))
                have hl5_0_1 : W5.cell? ⟨W3.heap.size, 1, none⟩ = some (st O) := (hc5 _ _ (by first | omega | go_size)).trans (by first | (with_reducible assumption) | go_cell)
                have hz5_0_1 : W5.frozen? ⟨W3.heap.size, 1, none⟩ = false := (hf5 _ _ (by first | omega | go_size)).trans (by first | (with_reducible assumption) | (go_simp; done) | (simp [*]; done))
                have hl5_0_2 : W5.cell? ⟨W3.heap.size, 2, none⟩ = some (st G) := (hc5 _ _ (by first | omega | go_size)).trans (by first | (with_reducible assumption) | go_cell)
                have hz5_0_2 : W5.frozen? ⟨W3.heap.size, 2, none⟩ = false := (hf5 _ _ (by first | omega | go_size)).trans (by first | (with_reducible assumption) | (go_simp; done) | (simp [*]; done))
                have hl5_0_3 : W5.cell? ⟨W3.heap.size, 3, none⟩ = some (by8 s1) := (hc5 _ _ (by first | omega | go_size)).trans (by first | (with_reducible assumption) | go_cell)
                have hz5_0_3 : W5.frozen? ⟨W3.heap.size, 3, none⟩ = false := (hf5 _ _ (by first | omega | go_size)).trans (by first | (with_reducible assumption) | (go_simp; done) | (simp [*]; done))
                have hk5_0 : W3.heap.size < W5.heap.size := by omega
                have hl5_1_0 : W5.cell? ⟨wr.heap.size, 0, none⟩ = some (num kd) := (hc5 _ _ (by first | omega | go_size)).trans (by first | (with_reducible assumption) | go_cell)
                have hz5_1_0 : W5.frozen? ⟨wr.heap.size, 0, none⟩ = false := (hf5 _ _ (by first | omega | go_size)).trans (by first | (with_reducible assumption) | (go_simp; done) | (simp [*]; done))
                have hl5_1_1 : W5.cell? ⟨wr.heap.size, 1, none⟩ = some (by8 wd) := (hc5 _ _ (by first | omega | go_size)).trans (by first | (with_reducible assumption) | go_cell)
                have hz5_1_1 : W5.frozen? ⟨wr.heap.size, 1, none⟩ = false := (hf5 _ _ (by first | omega | go_size)).trans (by first | (with_reducible assumption) | (go_simp; done) | (simp [*]; done))
                have hl5_1_2 : W5.cell? ⟨wr.heap.size, 2, none⟩ = some (st S) := (hc5 _ _ (by first | omega | go_size)).trans (by first | (with_reducible assumption) | go_cell)
                have hz5_1_2 : W5.frozen? ⟨wr.heap.size, 2, none⟩ = false := (hf5 _ _ (by first | omega | go_size)).trans (by first | (with_reducible assumption) | (go_simp; done) | (simp [*]; done))
                have hl5_1_3 : W5.cell? ⟨wr.heap.size, 3, none⟩ = some (.bool nd) := (hc5 _ _ (by first | omega | go_size)).trans (by first | (with_reducible assumption) | go_cell)
                have hz5_1_3 : W5.frozen? ⟨wr.heap.size, 3, none⟩ = false := (hf5 _ _ (by first | omega | go_size)).trans (by first | (with_reducible assumption) | (go_simp; done) | (simp [*]; done))
                have hk5_1 : wr.heap.size < W5.heap.size := by omega
                have hl5_2_0 : W5.cell? ⟨wr.heap.size + 1, 0, none⟩ = some (num K) := (hc5 _ _ (by first | omega | go_size)).trans (by first | (with_reducible assumption) | go_cell)
                have hz5_2_0 : W5.frozen? ⟨wr.heap.size + 1, 0, none⟩ = false := (hf5 _ _ (by first | omega | go_size)).trans (by first | (with_reducible assumption) | (go_simp; done) | (simp [*]; done))
                have hl5_2_1 : W5.cell? ⟨wr.heap.size + 1, 1, none⟩ = some (st O) := (hc5 _ _ (by first | omega | go_size)).trans (by first | (with_reducible assumption) | go_cell)
                have hz5_2_1 : W5.frozen? ⟨wr.heap.size + 1, 1, none⟩ = false := (hf5 _ _ (by first | omega | go_size)).trans (by first | (with_reducible assumption) | (go_simp; done) | (simp [*]; done))
                have hl5_2_2 : W5.cell? ⟨wr.heap.size + 1, 2, none⟩ = some (st G) := (hc5 _ _ (by first | omega | go_size)).trans (by first | (with_reducible assumption) | go_cell)
                have hz5_2_2 : W5.frozen? ⟨wr.heap.size + 1, 2, none⟩ = false := (hf5 _ _ (by first | omega | go_size)).trans (by first | (with_reducible assumption) | (go_simp; done) | (simp [*]; done))
                have hl5_2_3 : W5.cell? ⟨wr.heap.size + 1, 3, none⟩ = some (by8 s1) := (hc5 _ _ (by first | omega | go_size)).trans (by first | (with_reducible assumption) | go_cell)
                have hz5_2_3 : W5.frozen? ⟨wr.heap.size + 1, 3, none⟩ = false := (hf5 _ _ (by first | omega | go_size)).trans (by first | (with_reducible assumption) | (go_simp; done) | (simp [*]; done))
                have hk5_2 : wr.heap.size + 1 < W5.heap.size := by omega
                clear hg5 hc5 hf5
                go_wp2_with fail
                refine (check_is K O G2 s1 0 HC.out ad0 cap _ (HR.out.below (by go_grown))).mono ?_
                rintro eE W6 ⟨rfl, hg6⟩
                have hb6 : Below w.heap.size w W6 := (show Below w.heap.size w _ by go_grown).trans (hg6.mono (by first | omega | go_size))
                obtain ⟨hc6, hf6⟩ := bcell hg6
                have hs6 := hg6.size
                try simp only [World.size_alloc, World.size_setCell, World.size_drew] at hs6
                have hl6_0_0 : W6.cell? ⟨W3.heap.size, 0, none⟩ = some (num K) := (hc6 _ _ (by first | omega | go_size)).trans (by first | (with_reducible assumption) | go_cell)
                have hz6_0_0 : W6.frozen? ⟨W3.heap.size, 0, none⟩ = false := (hf6 _ _ (by first | omega | go_size)).trans (by first | (with_reducible assumption) | (go_simp; done) | (simp [*]; done))
                have hl6_0_1 : W6.cell? ⟨W3.heap.size, 1, none⟩ = some (st O) := (hc6 _ _ (by first | omega | go_size)).trans (by first | (with_reducible assumption) | go_cell)
                have hz6_0_1 : W6.frozen? ⟨W3.heap.size, 1, none⟩ = false := (hf6 _ _ (by first | omega | go_size)).trans (by first | (with_reducible assumption) | (go_simp; done) | (simp [*]; done))
                have hl6_0_2 : W6.cell? ⟨W3.heap.size, 2, none⟩ = some (st G2) := (hc6 _ _ (by first | omega | go_size)).trans (by first | (with_reducible assumption) | go_cell)
                have hz6_0_2 : W6.frozen? ⟨W3.heap.size, 2, none⟩ = false := (hf6 _ _ (by first | omega | go_size)).trans (by first | (with_reducible assumption) | (go_simp; done) | (simp [*]; done))
                have hl6_0_3 : W6.cell? ⟨W3.heap.size, 3, none⟩ = some (by8 s1) := (hc6 _ _ (by first | omega | go_size)).trans (by first | (with_reducible assumption) | go_cell)
                have hz6_0_3 : W6.frozen? ⟨W3.heap.size, 3, none⟩ = false := (hf6 _ _ (by first | omega | go_size)).trans (by first | (with_reducible assumption) | (go_simp; done) | (simp [*]; done))
                have hk6_0 : W3.heap.size < W6.heap.size := by omega
                have hl6_1_0 : W6.cell? ⟨wr.heap.size, 0, none⟩ = some (num kd) := (hc6 _ _ (by first | omega | go_size)).trans (by first | (with_reducible assumption) | go_cell)
                have hz6_1_0 : W6.frozen? ⟨wr.heap.size, 0, none⟩ = false := (hf6 _ _ (by first | omega | go_size)).trans (by first | (with_reducible assumption) | (go_simp; done) | (simp [*]; done))
                have hl6_1_1 : W6.cell? ⟨wr.heap.size, 1, none⟩ = some (by8 wd) := (hc6 _ _ (by first | omega | go_size)).trans (by first | (with_reducible assumption) | go_cell)
                have hz6_1_1 : W6.frozen? ⟨wr.heap.size, 1, none⟩ = false := (hf6 _ _ (by first | omega | go_size)).trans (by first | (with_reducible assumption) | (go_simp; done) | (simp [*]; done))
                have hl6_1_2 : W6.cell? ⟨wr.heap.size, 2, none⟩ = some (st S) := (hc6 _ _ (by first | omega | go_size)).trans (by first | (with_reducible assumption) | go_cell)
                have hz6_1_2 : W6.frozen? ⟨wr.heap.size, 2, none⟩ = false := (hf6 _ _ (by first | omega | go_size)).trans (by first | (with_reducible assumption) | (go_simp; done) | (simp [*]; done))
                have hl6_1_3 : W6.cell? ⟨wr.heap.size, 3, none⟩ = some (.bool nd) := (hc6 _ _ (by first | omega | go_size)).trans (by first | (with_reducible assumption) | go_cell)
                have hz6_1_3 : W6.frozen? ⟨wr.heap.size, 3, none⟩ = false := (hf6 _ _ (by first | omega | go_size)).trans (by first | (with_reducible assumption) | (go_simp; done) | (simp [*]; done))
                have hk6_1 : wr.heap.size < W6.heap.size := by omega
                have hl6_2_0 : W6.cell? ⟨wr.heap.size + 1, 0, none⟩ = some (num K) := (hc6 _ _ (by first | omega | go_size)).trans (by first | (with_reducible assumption) | go_cell)
                have hz6_2_0 : W6.frozen? ⟨wr.heap.size + 1, 0, none⟩ = false := (hf6 _ _ (by first | omega | go_size)).trans (by first | (with_reducible assumption) | (go_simp; done) | (simp [*]; done))
                have hl6_2_1 : W6.cell? ⟨wr.heap.size + 1, 1, none⟩ = some (st O) := (hc6 _ _ (by first | omega | go_size)).trans (by first | (with_reducible assumption) | go_cell)
                have hz6_2_1 : W6.frozen? ⟨wr.heap.size + 1, 1, none⟩ = false := (hf6 _ _ (by first | omega | go_size)).trans (by first | (with_reducible assumption) | (go_simp; done) | (simp [*]; done))
                have hl6_2_2 : W6.cell? ⟨wr.heap.size + 1, 2, none⟩ = some (st G) := (hc6 _ _ (by first | omega | go_size)).trans (by first | (with_reducible assumption) | go_cell)
                have hz6_2_2 : W6.frozen? ⟨wr.heap.size + 1, 2, none⟩ = false := (hf6 _ _ (by first | omega | go_size)).trans (by first | (with_reducible assumption) | (go_simp; done) | (simp [*]; done))
                have hl6_2_3 : W6.cell? ⟨wr.heap.size + 1, 3, none⟩ = some (by8 s1) := (hc6 _ _ (by first | omega | go_size)).trans (by first | (with_reducible assumption) | go_cell)
                have hz6_2_3 : W6.frozen? ⟨wr.heap.size + 1, 3, none⟩ = false := (hf6 _ _ (by first | omega | go_size)).trans (by first | (with_reducible assumption) | (go_simp; done) | (simp [*]; done))
                have hk6_2 : wr.heap.size + 1 < W6.heap.size := by omega
                clear hg6 hc6 hf6
                go_wp2_with fail
                refine Lib.wp_region_class (Lib.Held w _ [(W3.heap.size, 0, (num K : Value)), (W3.heap.size, 1, (st O : Value)), (W3.heap.size, 2, (st G2 : Value)), (W3.heap.size, 3, (by8 s1 : Value)), (wr.heap.size, 0, (num kd : Value)), (wr.heap.size, 1, (by8 wd : Value)), (wr.heap.size, 2, (st S : Value)), (wr.heap.size, 3, (.bool nd : Value)), (wr.heap.size + 1, 0, (num K : Value)), (wr.heap.size + 1, 1, (st O : Value)), (wr.heap.size + 1, 2, (st G : Value)), (wr.heap.size + 1, 3, (by8 s1 : Value))]) (by kernel_rfl) (by kernel_rfl) ⟨by go_grown, Below.refl _ _, ⟨by first | omega | go_size, by first | go_cell | (simp [*]; done), by first | (with_reducible assumption) | (go_simp; done) | (simp [*]; done)⟩, ⟨by first | omega | go_size, by first | go_cell | (simp [*]; done), by first | (with_reducible assumption) | (go_simp; done) | (simp [*]; done)⟩, ⟨by first | omega | go_size, by first | go_cell | (simp [*]; done), by first | (with_reducible assumption) | (go_simp; done) | (simp [*]; done)⟩, ⟨by first | omega | go_size, by first | go_cell | (simp [*]; done), by first | (with_reducible assumption) | (go_simp; done) | (simp [*]; done)⟩, ⟨by first | omega | go_size, by first | go_cell | (simp [*]; done), by first | (with_reducible assumption) | (go_simp; done) | (simp [*]; done)⟩, ⟨by first | omega | go_size, by first | go_cell | (simp [*]; done), by first | (with_reducible assumption) | (go_simp; done) | (simp [*]; done)⟩, ⟨by first | omega | go_size, by first | go_cell | (simp [*]; done), by first | (with_reducible assumption) | (go_simp; done) | (simp [*]; done)⟩, ⟨by first | omega | go_size, by first | go_cell | (simp [*]; done), by first | (with_reducible assumption) | (go_simp; done) | (simp [*]; done)⟩, ⟨by first | omega | go_size, by first | go_cell | (simp [*]; done), by first | (with_reducible assumption) | (go_simp; done) | (simp [*]; done)⟩, ⟨by first | omega | go_size, by first | go_cell | (simp [*]; done), by first | (with_reducible assumption) | (go_simp; done) | (simp [*]; done)⟩, ⟨by first | omega | go_size, by first | go_cell | (simp [*]; done), by first | (with_reducible assumption) | (go_simp; done) | (simp [*]; done)⟩, ⟨by first | omega | go_size, by first | go_cell | (simp [*]; done), by first | (with_reducible assumption) | (go_simp; done) | (simp [*]; done)⟩, trivial⟩ ?_
                repeat (first | go_big_quiet_step ((intro hq; first | rfl | (go_at_call 12; exact Lib.Held.call hq (runs_is K O G2 s1 _ HRun.out ad0 cap _ (HR.out.below hq.1))) | (have hq' := hq; obtain ⟨hbq, heq, ⟨hkq_0, hlq_0, hzq_0⟩, ⟨hkq_1, hlq_1, hzq_1⟩, ⟨hkq_2, hlq_2, hzq_2⟩, ⟨hkq_3, hlq_3, hzq_3⟩, ⟨hkq_4, hlq_4, hzq_4⟩, ⟨hkq_5, hlq_5, hzq_5⟩, ⟨hkq_6, hlq_6, hzq_6⟩, ⟨hkq_7, hlq_7, hzq_7⟩, ⟨hkq_8, hlq_8, hzq_8⟩, ⟨hkq_9, hlq_9, hzq_9⟩, ⟨hkq_10, hlq_10, hzq_10⟩, ⟨hkq_11, hlq_11, hzq_11⟩, _⟩ := hq'; go_simp; rfl))) | quiet_step ((intro hq; first | rfl | (go_at_call 12; exact Lib.Held.call hq (runs_is K O G2 s1 _ HRun.out ad0 cap _ (HR.out.below hq.1))) | (have hq' := hq; obtain ⟨hbq, heq, ⟨hkq_0, hlq_0, hzq_0⟩, ⟨hkq_1, hlq_1, hzq_1⟩, ⟨hkq_2, hlq_2, hzq_2⟩, ⟨hkq_3, hlq_3, hzq_3⟩, ⟨hkq_4, hlq_4, hzq_4⟩, ⟨hkq_5, hlq_5, hzq_5⟩, ⟨hkq_6, hlq_6, hzq_6⟩, ⟨hkq_7, hlq_7, hzq_7⟩, ⟨hkq_8, hlq_8, hzq_8⟩, ⟨hkq_9, hlq_9, hzq_9⟩, ⟨hkq_10, hlq_10, hzq_10⟩, ⟨hkq_11, hlq_11, hzq_11⟩, _⟩ := hq'; go_simp; rfl))))
                refine wpQuiet_nil ?_
                intro W8 hq8
                obtain ⟨hb8, he8, ⟨hk8_0, hl8_0, hz8_0⟩, ⟨hk8_1, hl8_1, hz8_1⟩, ⟨hk8_2, hl8_2, hz8_2⟩, ⟨hk8_3, hl8_3, hz8_3⟩, ⟨hk8_4, hl8_4, hz8_4⟩, ⟨hk8_5, hl8_5, hz8_5⟩, ⟨hk8_6, hl8_6, hz8_6⟩, ⟨hk8_7, hl8_7, hz8_7⟩, ⟨hk8_8, hl8_8, hz8_8⟩, ⟨hk8_9, hl8_9, hz8_9⟩, ⟨hk8_10, hl8_10, hz8_10⟩, ⟨hk8_11, hl8_11, hz8_11⟩, _⟩ := hq8
                have hs8 := he8.size
                try simp only [World.size_alloc, World.size_setCell, World.size_drew] at hs8
                go_wp2_with fail
                go_roundw
                case rel => exact ⟨j + 1, G2, s1, by omega, by go_num, HV2.out, by go_grown, by go_size, ⟨⟨by go_cell, by go_cell, by go_cell, by go_cell⟩, by first | (with_reducible assumption) | (go_simp; done) | (simp [*]; done), by first | (with_reducible assumption) | (go_simp; done) | (simp [*]; done), by first | (with_reducible assumption) | (go_simp; done) | (simp [*]; done), by first | (with_reducible assumption) | (go_simp; done) | (simp [*]; done)⟩⟩
                case measure => simp [intOf]; omega
            · as_aux_lemma =>
                rw [b8] at g8 k8; rw [b4] at g4; rw [b2] at g2; rw [b1] at k1
                have HAcc := Lib.hid ba
                clear hok2 ba b1 b2 b8 b4
                go_wp2_with fail
                refine (ask_is K O G s1 S G2 HAsk.out ad0 cap _ (HR.out.below (by go_grown))).mono ?_
                rintro eE W5 ⟨rfl, hg5⟩
                have hb5 : Below w.heap.size w W5 := (show Below w.heap.size w _ by go_grown).trans (hg5.mono (by first | omega | go_size))
                obtain ⟨hc5, hf5⟩ := bcell hg5
                have hs5 := hg5.size
                try simp only [World.size_alloc, World.size_setCell, World.size_drew] at hs5
                have hl5_0_0 : W5.cell? ⟨W3.heap.size, 0, none⟩ = some (num K) := (hc5 _ _ (by first | omega | go_size)).trans (by first | (with_reducible assumption) | go_cell)
                have hz5_0_0 : W5.frozen? ⟨W3.heap.size, 0, none⟩ = false := (hf5 _ _ (by first | omega | go_size)).trans (by first | (with_reducible assumption) | (go_simp; done) | (simp [*]; done))
                have hl5_0_1 : W5.cell? ⟨W3.heap.size, 1, none⟩ = some (st O) := (hc5 _ _ (by first | omega | go_size)).trans (by first | (with_reducible assumption) | go_cell)
                have hz5_0_1 : W5.frozen? ⟨W3.heap.size, 1, none⟩ = false := (hf5 _ _ (by first | omega | go_size)).trans (by first | (with_reducible assumption) | (go_simp; done) | (simp [*]; done))
                have hl5_0_2 : W5.cell? ⟨W3.heap.size, 2, none⟩ = some (st G) := (hc5 _ _ (by first | omega | go_size)).trans (by first | (with_reducible assumption) | go_cell)
                have hz5_0_2 : W5.frozen? ⟨W3.heap.size, 2, none⟩ = false := (hf5 _ _ (by first | omega | go_size)).trans (by first | (with_reducible assumption) | (go_simp; done) | (simp [*]; done))
                have hl5_0_3 : W5.cell? ⟨W3.heap.size, 3, none⟩ = some (by8 s1) := (hc5 _ _ (by first | omega | go_size)).trans (by first | (with_reducible assumption) | go_cell)
                have hz5_0_3 : W5.frozen? ⟨W3.heap.size, 3, none⟩ = false := (hf5 _ _ (by first | omega | go_size)).trans (by first | (with_reducible assumption) | (go_simp; done) | (simp [*]; done))
                have hk5_0 : W3.heap.size < W5.heap.size := by omega
                have hl5_1_0 : W5.cell? ⟨wr.heap.size, 0, none⟩ = some (num kd) := (hc5 _ _ (by first | omega | go_size)).trans (by first | (with_reducible assumption) | go_cell)
                have hz5_1_0 : W5.frozen? ⟨wr.heap.size, 0, none⟩ = false := (hf5 _ _ (by first | omega | go_size)).trans (by first | (with_reducible assumption) | (go_simp; done) | (simp [*]; done))
                have hl5_1_1 : W5.cell? ⟨wr.heap.size, 1, none⟩ = some (by8 wd) := (hc5 _ _ (by first | omega | go_size)).trans (by first | (with_reducible assumption) | go_cell)
                have hz5_1_1 : W5.frozen? ⟨wr.heap.size, 1, none⟩ = false := (hf5 _ _ (by first | omega | go_size)).trans (by first | (with_reducible assumption) | (go_simp; done) | (simp [*]; done))
                have hl5_1_2 : W5.cell? ⟨wr.heap.size, 2, none⟩ = some (st S) := (hc5 _ _ (by first | omega | go_size)).trans (by first | (with_reducible assumption) | go_cell)
                have hz5_1_2 : W5.frozen? ⟨wr.heap.size, 2, none⟩ = false := (hf5 _ _ (by first | omega | go_size)).trans (by first | (with_reducible assumption) | (go_simp; done) | (simp [*]; done))
                have hl5_1_3 : W5.cell? ⟨wr.heap.size, 3, none⟩ = some (.bool nd) := (hc5 _ _ (by first | omega | go_size)).trans (by first | (with_reducible assumption) | go_cell)
                have hz5_1_3 : W5.frozen? ⟨wr.heap.size, 3, none⟩ = false := (hf5 _ _ (by first | omega | go_size)).trans (by first | (with_reducible assumption) | (go_simp; done) | (simp [*]; done))
                have hk5_1 : wr.heap.size < W5.heap.size := by omega
                have hl5_2_0 : W5.cell? ⟨wr.heap.size + 1, 0, none⟩ = some (num K) := (hc5 _ _ (by first | omega | go_size)).trans (by first | (with_reducible assumption) | go_cell)
                have hz5_2_0 : W5.frozen? ⟨wr.heap.size + 1, 0, none⟩ = false := (hf5 _ _ (by first | omega | go_size)).trans (by first | (with_reducible assumption) | (go_simp; done) | (simp [*]; done))
                have hl5_2_1 : W5.cell? ⟨wr.heap.size + 1, 1, none⟩ = some (st O) := (hc5 _ _ (by first | omega | go_size)).trans (by first | (with_reducible assumption) | go_cell)
                have hz5_2_1 : W5.frozen? ⟨wr.heap.size + 1, 1, none⟩ = false := (hf5 _ _ (by first | omega | go_size)).trans (by first | (with_reducible assumption) | (go_simp; done) | (simp [*]; done))
                have hl5_2_2 : W5.cell? ⟨wr.heap.size + 1, 2, none⟩ = some (st G) := (hc5 _ _ (by first | omega | go_size)).trans (by first | (with_reducible assumption) | go_cell)
                have hz5_2_2 : W5.frozen? ⟨wr.heap.size + 1, 2, none⟩ = false := (hf5 _ _ (by first | omega | go_size)).trans (by first | (with_reducible assumption) | (go_simp; done) | (simp [*]; done))
                have hl5_2_3 : W5.cell? ⟨wr.heap.size + 1, 3, none⟩ = some (by8 s1) := (hc5 _ _ (by first | omega | go_size)).trans (by first | (with_reducible assumption) | go_cell)
                have hz5_2_3 : W5.frozen? ⟨wr.heap.size + 1, 3, none⟩ = false := (hf5 _ _ (by first | omega | go_size)).trans (by first | (with_reducible assumption) | (go_simp; done) | (simp [*]; done))
                have hk5_2 : wr.heap.size + 1 < W5.heap.size := by omega
                clear hg5 hc5 hf5
                go_wp2_with fail
                refine (check_is K O G2 s1 0 HC.out ad0 cap _ (HR.out.below (by go_grown))).mono ?_
                rintro eE W6 ⟨rfl, hg6⟩
                have hb6 : Below w.heap.size w W6 := (show Below w.heap.size w _ by go_grown).trans (hg6.mono (by first | omega | go_size))
                obtain ⟨hc6, hf6⟩ := bcell hg6
                have hs6 := hg6.size
                try simp only [World.size_alloc, World.size_setCell, World.size_drew] at hs6
                have hl6_0_0 : W6.cell? ⟨W3.heap.size, 0, none⟩ = some (num K) := (hc6 _ _ (by first | omega | go_size)).trans (by first | (with_reducible assumption) | go_cell)
                have hz6_0_0 : W6.frozen? ⟨W3.heap.size, 0, none⟩ = false := (hf6 _ _ (by first | omega | go_size)).trans (by first | (with_reducible assumption) | (go_simp; done) | (simp [*]; done))
                have hl6_0_1 : W6.cell? ⟨W3.heap.size, 1, none⟩ = some (st O) := (hc6 _ _ (by first | omega | go_size)).trans (by first | (with_reducible assumption) | go_cell)
                have hz6_0_1 : W6.frozen? ⟨W3.heap.size, 1, none⟩ = false := (hf6 _ _ (by first | omega | go_size)).trans (by first | (with_reducible assumption) | (go_simp; done) | (simp [*]; done))
                have hl6_0_2 : W6.cell? ⟨W3.heap.size, 2, none⟩ = some (st G2) := (hc6 _ _ (by first | omega | go_size)).trans (by first | (with_reducible assumption) | go_cell)
                have hz6_0_2 : W6.frozen? ⟨W3.heap.size, 2, none⟩ = false := (hf6 _ _ (by first | omega | go_size)).trans (by first | (with_reducible assumption) | (go_simp; done) | (simp [*]; done))
                have hl6_0_3 : W6.cell? ⟨W3.heap.size, 3, none⟩ = some (by8 s1) := (hc6 _ _ (by first | omega | go_size)).trans (by first | (with_reducible assumption) | go_cell)
                have hz6_0_3 : W6.frozen? ⟨W3.heap.size, 3, none⟩ = false := (hf6 _ _ (by first | omega | go_size)).trans (by first | (with_reducible assumption) | (go_simp; done) | (simp [*]; done))
                have hk6_0 : W3.heap.size < W6.heap.size := by omega
                have hl6_1_0 : W6.cell? ⟨wr.heap.size, 0, none⟩ = some (num kd) := (hc6 _ _ (by first | omega | go_size)).trans (by first | (with_reducible assumption) | go_cell)
                have hz6_1_0 : W6.frozen? ⟨wr.heap.size, 0, none⟩ = false := (hf6 _ _ (by first | omega | go_size)).trans (by first | (with_reducible assumption) | (go_simp; done) | (simp [*]; done))
                have hl6_1_1 : W6.cell? ⟨wr.heap.size, 1, none⟩ = some (by8 wd) := (hc6 _ _ (by first | omega | go_size)).trans (by first | (with_reducible assumption) | go_cell)
                have hz6_1_1 : W6.frozen? ⟨wr.heap.size, 1, none⟩ = false := (hf6 _ _ (by first | omega | go_size)).trans (by first | (with_reducible assumption) | (go_simp; done) | (simp [*]; done))
                have hl6_1_2 : W6.cell? ⟨wr.heap.size, 2, none⟩ = some (st S) := (hc6 _ _ (by first | omega | go_size)).trans (by first | (with_reducible assumption) | go_cell)
                have hz6_1_2 : W6.frozen? ⟨wr.heap.size, 2, none⟩ = false := (hf6 _ _ (by first | omega | go_size)).trans (by first | (with_reducible assumption) | (go_simp; done) | (simp [*]; done))
                have hl6_1_3 : W6.cell? ⟨wr.heap.size, 3, none⟩ = some (.bool nd) := (hc6 _ _ (by first | omega | go_size)).trans (by first | (with_reducible assumption) | go_cell)
                have hz6_1_3 : W6.frozen? ⟨wr.heap.size, 3, none⟩ = false := (hf6 _ _ (by first | omega | go_size)).trans (by first | (with_reducible assumption) | (go_simp; done) | (simp [*]; done))
                have hk6_1 : wr.heap.size < W6.heap.size := by omega
                have hl6_2_0 : W6.cell? ⟨wr.heap.size + 1, 0, none⟩ = some (num K) := (hc6 _ _ (by first | omega | go_size)).trans (by first | (with_reducible assumption) | go_cell)
                have hz6_2_0 : W6.frozen? ⟨wr.heap.size + 1, 0, none⟩ = false := (hf6 _ _ (by first | omega | go_size)).trans (by first | (with_reducible assumption) | (go_simp; done) | (simp [*]; done))
                have hl6_2_1 : W6.cell? ⟨wr.heap.size + 1, 1, none⟩ = some (st O) := (hc6 _ _ (by first | omega | go_size)).trans (by first | (with_reducible assumption) | go_cell)
                have hz6_2_1 : W6.frozen? ⟨wr.heap.size + 1, 1, none⟩ = false := (hf6 _ _ (by first | omega | go_size)).trans (by first | (with_reducible assumption) | (go_simp; done) | (simp [*]; done))
                have hl6_2_2 : W6.cell? ⟨wr.heap.size + 1, 2, none⟩ = some (st G) := (hc6 _ _ (by first | omega | go_size)).trans (by first | (with_reducible assumption) | go_cell)
                have hz6_2_2 : W6.frozen? ⟨wr.heap.size + 1, 2, none⟩ = false := (hf6 _ _ (by first | omega | go_size)).trans (by first | (with_reducible assumption) | (go_simp; done) | (simp [*]; done))
                have hl6_2_3 : W6.cell? ⟨wr.heap.size + 1, 3, none⟩ = some (by8 s1) := (hc6 _ _ (by first | omega | go_size)).trans (by first | (with_reducible assumption) | go_cell)
                have hz6_2_3 : W6.frozen? ⟨wr.heap.size + 1, 3, none⟩ = false := (hf6 _ _ (by first | omega | go_size)).trans (by first | (with_reducible assumption) | (go_simp; done) | (simp [*]; done))
                have hk6_2 : wr.heap.size + 1 < W6.heap.size := by omega
                clear hg6 hc6 hf6
                go_wp2_with fail
                refine (StR.accept_is K O G2 true HAcc.out _).mono ?_
                rintro eE W7 ⟨rfl, hg7⟩
                have hb7 : Below w.heap.size w W7 := (show Below w.heap.size w _ by go_grown).trans (hg7.mono (by first | omega | go_size))
                obtain ⟨hc7, hf7⟩ := bcell hg7
                have hs7 := hg7.size
                try simp only [World.size_alloc, World.size_setCell, World.size_drew] at hs7
                have hl7_0_0 : W7.cell? ⟨W3.heap.size, 0, none⟩ = some (num K) := (hc7 _ _ (by first | omega | go_size)).trans (by first | (with_reducible assumption) | go_cell)
                have hz7_0_0 : W7.frozen? ⟨W3.heap.size, 0, none⟩ = false := (hf7 _ _ (by first | omega | go_size)).trans (by first | (with_reducible assumption) | (go_simp; done) | (simp [*]; done))
                have hl7_0_1 : W7.cell? ⟨W3.heap.size, 1, none⟩ = some (st O) := (hc7 _ _ (by first | omega | go_size)).trans (by first | (with_reducible assumption) | go_cell)
                have hz7_0_1 : W7.frozen? ⟨W3.heap.size, 1, none⟩ = false := (hf7 _ _ (by first | omega | go_size)).trans (by first | (with_reducible assumption) | (go_simp; done) | (simp [*]; done))
                have hl7_0_2 : W7.cell? ⟨W3.heap.size, 2, none⟩ = some (st G2) := (hc7 _ _ (by first | omega | go_size)).trans (by first | (with_reducible assumption) | go_cell)
                have hz7_0_2 : W7.frozen? ⟨W3.heap.size, 2, none⟩ = false := (hf7 _ _ (by first | omega | go_size)).trans (by first | (with_reducible assumption) | (go_simp; done) | (simp [*]; done))
                have hl7_0_3 : W7.cell? ⟨W3.heap.size, 3, none⟩ = some (by8 s1) := (hc7 _ _ (by first | omega | go_size)).trans (by first | (with_reducible assumption) | go_cell)
                have hz7_0_3 : W7.frozen? ⟨W3.heap.size, 3, none⟩ = false := (hf7 _ _ (by first | omega | go_size)).trans (by first | (with_reducible assumption) | (go_simp; done) | (simp [*]; done))
                have hk7_0 : W3.heap.size < W7.heap.size := by omega
                have hl7_1_0 : W7.cell? ⟨wr.heap.size, 0, none⟩ = some (num kd) := (hc7 _ _ (by first | omega | go_size)).trans (by first | (with_reducible assumption) | go_cell)
                have hz7_1_0 : W7.frozen? ⟨wr.heap.size, 0, none⟩ = false := (hf7 _ _ (by first | omega | go_size)).trans (by first | (with_reducible assumption) | (go_simp; done) | (simp [*]; done))
                have hl7_1_1 : W7.cell? ⟨wr.heap.size, 1, none⟩ = some (by8 wd) := (hc7 _ _ (by first | omega | go_size)).trans (by first | (with_reducible assumption) | go_cell)
                have hz7_1_1 : W7.frozen? ⟨wr.heap.size, 1, none⟩ = false := (hf7 _ _ (by first | omega | go_size)).trans (by first | (with_reducible assumption) | (go_simp; done) | (simp [*]; done))
                have hl7_1_2 : W7.cell? ⟨wr.heap.size, 2, none⟩ = some (st S) := (hc7 _ _ (by first | omega | go_size)).trans (by first | (with_reducible assumption) | go_cell)
                have hz7_1_2 : W7.frozen? ⟨wr.heap.size, 2, none⟩ = false := (hf7 _ _ (by first | omega | go_size)).trans (by first | (with_reducible assumption) | (go_simp; done) | (simp [*]; done))
                have hl7_1_3 : W7.cell? ⟨wr.heap.size, 3, none⟩ = some (.bool nd) := (hc7 _ _ (by first | omega | go_size)).trans (by first | (with_reducible assumption) | go_cell)
                have hz7_1_3 : W7.frozen? ⟨wr.heap.size, 3, none⟩ = false := (hf7 _ _ (by first | omega | go_size)).trans (by first | (with_reducible assumption) | (go_simp; done) | (simp [*]; done))
                have hk7_1 : wr.heap.size < W7.heap.size := by omega
                have hl7_2_0 : W7.cell? ⟨wr.heap.size + 1, 0, none⟩ = some (num K) := (hc7 _ _ (by first | omega | go_size)).trans (by first | (with_reducible assumption) | go_cell)
                have hz7_2_0 : W7.frozen? ⟨wr.heap.size + 1, 0, none⟩ = false := (hf7 _ _ (by first | omega | go_size)).trans (by first | (with_reducible assumption) | (go_simp; done) | (simp [*]; done))
                have hl7_2_1 : W7.cell? ⟨wr.heap.size + 1, 1, none⟩ = some (st O) := (hc7 _ _ (by first | omega | go_size)).trans (by first | (with_reducible assumption) | go_cell)
                have hz7_2_1 : W7.frozen? ⟨wr.heap.size + 1, 1, none⟩ = false := (hf7 _ _ (by first | omega | go_size)).trans (by first | (with_reducible assumption) | (go_simp; done) | (simp [*]; done))
                have hl7_2_2 : W7.cell? ⟨wr.heap.size + 1, 2, none⟩ = some (st G) := (hc7 _ _ (by first | omega | go_size)).trans (by first | (with_reducible assumption) | go_cell)
                have hz7_2_2 : W7.frozen? ⟨wr.heap.size + 1, 2, none⟩ = false := (hf7 _ _ (by first | omega | go_size)).trans (by first | (with_reducible assumption) | (go_simp; done) | (simp [*]; done))
                have hl7_2_3 : W7.cell? ⟨wr.heap.size + 1, 3, none⟩ = some (by8 s1) := (hc7 _ _ (by first | omega | go_size)).trans (by first | (with_reducible assumption) | go_cell)
                have hz7_2_3 : W7.frozen? ⟨wr.heap.size + 1, 3, none⟩ = false := (hf7 _ _ (by first | omega | go_size)).trans (by first | (with_reducible assumption) | (go_simp; done) | (simp [*]; done))
                have hk7_2 : wr.heap.size + 1 < W7.heap.size := by omega
                clear hg7 hc7 hf7
                go_wp2_with fail
                refine Lib.wp_region_class (Lib.Held w _ [(W3.heap.size, 0, (num K : Value)), (W3.heap.size, 1, (st O : Value)), (W3.heap.size, 2, (st G2 : Value)), (W3.heap.size, 3, (by8 s1 : Value)), (wr.heap.size, 0, (num kd : Value)), (wr.heap.size, 1, (by8 wd : Value)), (wr.heap.size, 2, (st S : Value)), (wr.heap.size, 3, (.bool nd : Value)), (wr.heap.size + 1, 0, (num K : Value)), (wr.heap.size + 1, 1, (st O : Value)), (wr.heap.size + 1, 2, (st G : Value)), (wr.heap.size + 1, 3, (by8 s1 : Value))]) (by kernel_rfl) (by kernel_rfl) ⟨by go_grown, Below.refl _ _, ⟨by first | omega | go_size, by first | go_cell | (simp [*]; done), by first | (with_reducible assumption) | (go_simp; done) | (simp [*]; done)⟩, ⟨by first | omega | go_size, by first | go_cell | (simp [*]; done), by first | (with_reducible assumption) | (go_simp; done) | (simp [*]; done)⟩, ⟨by first | omega | go_size, by first | go_cell | (simp [*]; done), by first | (with_reducible assumption) | (go_simp; done) | (simp [*]; done)⟩, ⟨by first | omega | go_size, by first | go_cell | (simp [*]; done), by first | (with_reducible assumption) | (go_simp; done) | (simp [*]; done)⟩, ⟨by first | omega | go_size, by first | go_cell | (simp [*]; done), by first | (with_reducible assumption) | (go_simp; done) | (simp [*]; done)⟩, ⟨by first | omega | go_size, by first | go_cell | (simp [*]; done), by first | (with_reducible assumption) | (go_simp; done) | (simp [*]; done)⟩, ⟨by first | omega | go_size, by first | go_cell | (simp [*]; done), by first | (with_reducible assumption) | (go_simp; done) | (simp [*]; done)⟩, ⟨by first | omega | go_size, by first | go_cell | (simp [*]; done), by first | (with_reducible assumption) | (go_simp; done) | (simp [*]; done)⟩, ⟨by first | omega | go_size, by first | go_cell | (simp [*]; done), by first | (with_reducible assumption) | (go_simp; done) | (simp [*]; done)⟩, ⟨by first | omega | go_size, by first | go_cell | (simp [*]; done), by first | (with_reducible assumption) | (go_simp; done) | (simp [*]; done)⟩, ⟨by first | omega | go_size, by first | go_cell | (simp [*]; done), by first | (with_reducible assumption) | (go_simp; done) | (simp [*]; done)⟩, ⟨by first | omega | go_size, by first | go_cell | (simp [*]; done), by first | (with_reducible assumption) | (go_simp; done) | (simp [*]; done)⟩, trivial⟩ ?_
                repeat (first | go_big_quiet_step ((intro hq; first | rfl | (go_at_call 12; exact Lib.Held.call hq (runs_is K O G2 s1 _ HRun.out ad0 cap _ (HR.out.below hq.1))) | (have hq' := hq; obtain ⟨hbq, heq, ⟨hkq_0, hlq_0, hzq_0⟩, ⟨hkq_1, hlq_1, hzq_1⟩, ⟨hkq_2, hlq_2, hzq_2⟩, ⟨hkq_3, hlq_3, hzq_3⟩, ⟨hkq_4, hlq_4, hzq_4⟩, ⟨hkq_5, hlq_5, hzq_5⟩, ⟨hkq_6, hlq_6, hzq_6⟩, ⟨hkq_7, hlq_7, hzq_7⟩, ⟨hkq_8, hlq_8, hzq_8⟩, ⟨hkq_9, hlq_9, hzq_9⟩, ⟨hkq_10, hlq_10, hzq_10⟩, ⟨hkq_11, hlq_11, hzq_11⟩, _⟩ := hq'; go_simp; rfl))) | quiet_step ((intro hq; first | rfl | (go_at_call 12; exact Lib.Held.call hq (runs_is K O G2 s1 _ HRun.out ad0 cap _ (HR.out.below hq.1))) | (have hq' := hq; obtain ⟨hbq, heq, ⟨hkq_0, hlq_0, hzq_0⟩, ⟨hkq_1, hlq_1, hzq_1⟩, ⟨hkq_2, hlq_2, hzq_2⟩, ⟨hkq_3, hlq_3, hzq_3⟩, ⟨hkq_4, hlq_4, hzq_4⟩, ⟨hkq_5, hlq_5, hzq_5⟩, ⟨hkq_6, hlq_6, hzq_6⟩, ⟨hkq_7, hlq_7, hzq_7⟩, ⟨hkq_8, hlq_8, hzq_8⟩, ⟨hkq_9, hlq_9, hzq_9⟩, ⟨hkq_10, hlq_10, hzq_10⟩, ⟨hkq_11, hlq_11, hzq_11⟩, _⟩ := hq'; go_simp; rfl))))
                refine wpQuiet_nil ?_
                intro W8 hq8
                obtain ⟨hb8, he8, ⟨hk8_0, hl8_0, hz8_0⟩, ⟨hk8_1, hl8_1, hz8_1⟩, ⟨hk8_2, hl8_2, hz8_2⟩, ⟨hk8_3, hl8_3, hz8_3⟩, ⟨hk8_4, hl8_4, hz8_4⟩, ⟨hk8_5, hl8_5, hz8_5⟩, ⟨hk8_6, hl8_6, hz8_6⟩, ⟨hk8_7, hl8_7, hz8_7⟩, ⟨hk8_8, hl8_8, hz8_8⟩, ⟨hk8_9, hl8_9, hz8_9⟩, ⟨hk8_10, hl8_10, hz8_10⟩, ⟨hk8_11, hl8_11, hz8_11⟩, _⟩ := hq8
                have hs8 := he8.size
                try simp only [World.size_alloc, World.size_setCell, World.size_drew] at hs8
                go_wp2_with fail
                go_roundw
                case rel => exact ⟨j + 1, G2, s1, by omega, by go_num, HV2.out, by go_grown, by go_size, ⟨⟨by go_cell, by go_cell, by go_cell, by go_cell⟩, by first | (with_reducible assumption) | (go_simp; done) | (simp [*]; done), by first | (with_reducible assumption) | (go_simp; done) | (simp [*]; done), by first | (with_reducible assumption) | (go_simp; done) | (simp [*]; done), by first | (with_reducible assumption) | (go_simp; done) | (simp [*]; done)⟩⟩
                case measure => simp [intOf]; omega
            · as_aux_lemma =>
                rw [b8] at g8 k8; rw [b4] at g4; rw [b2] at g2; rw [b1] at k1
                have HAcc := Lib.hid ba
                clear hok2 ba b1 b2 b8 b4
                go_wp2_with fail
                refine (ask_is K O G s1 S G2 HAsk.out ad0 cap _ (HR.out.below (by go_grown))).mono ?_
                rintro eE W5 ⟨rfl, hg5⟩
                have hb5 : Below w.heap.size w W5 := (show Below w.heap.size w _ by go_grown).trans (hg5.mono (by first | omega | go_size))
                obtain ⟨hc5, hf5⟩ := bcell hg5
                have hs5 := hg5.size
                try simp only [World.size_alloc, World.size_setCell, World.size_drew] at hs5
                have hl5_0_0 : W5.cell? ⟨W3.heap.size, 0, none⟩ = some (num K) := (hc5 _ _ (by first | omega | go_size)).trans (by first | (with_reducible assumption) | go_cell)
                have hz5_0_0 : W5.frozen? ⟨W3.heap.size, 0, none⟩ = false := (hf5 _ _ (by first | omega | go_size)).trans (by first | (with_reducible assumption) | (go_simp; done) | (simp [*]; done))
                have hl5_0_1 : W5.cell? ⟨W3.heap.size, 1, none⟩ = some (st O) := (hc5 _ _ (by first | omega | go_size)).trans (by first | (with_reducible assumption) | go_cell)
                have hz5_0_1 : W5.frozen? ⟨W3.heap.size, 1, none⟩ = false := (hf5 _ _ (by first | omega | go_size)).trans (by first | (with_reducible assumption) | (go_simp; done) | (simp [*]; done))
                have hl5_0_2 : W5.cell? ⟨W3.heap.size, 2, none⟩ = some (st G) := (hc5 _ _ (by first | omega | go_size)).trans (by first | (with_reducible assumption) | go_cell)
                have hz5_0_2 : W5.frozen? ⟨W3.heap.size, 2, none⟩ = false := (hf5 _ _ (by first | omega | go_size)).trans (by first | (with_reducible assumption) | (go_simp; done) | (simp [*]; done))
                have hl5_0_3 : W5.cell? ⟨W3.heap.size, 3, none⟩ = some (by8 s1) := (hc5 _ _ (by first | omega | go_size)).trans (by first | (with_reducible assumption) | go_cell)
                have hz5_0_3 : W5.frozen? ⟨W3.heap.size, 3, none⟩ = false := (hf5 _ _ (by first | omega | go_size)).trans (by first | (with_reducible assumption) | (go_simp; done) | (simp [*]; done))
                have hk5_0 : W3.heap.size < W5.heap.size := by omega
                have hl5_1_0 : W5.cell? ⟨wr.heap.size, 0, none⟩ = some (num kd) := (hc5 _ _ (by first | omega | go_size)).trans (by first | (with_reducible assumption) | go_cell)
                have hz5_1_0 : W5.frozen? ⟨wr.heap.size, 0, none⟩ = false := (hf5 _ _ (by first | omega | go_size)).trans (by first | (with_reducible assumption) | (go_simp; done) | (simp [*]; done))
                have hl5_1_1 : W5.cell? ⟨wr.heap.size, 1, none⟩ = some (by8 wd) := (hc5 _ _ (by first | omega | go_size)).trans (by first | (with_reducible assumption) | go_cell)
                have hz5_1_1 : W5.frozen? ⟨wr.heap.size, 1, none⟩ = false := (hf5 _ _ (by first | omega | go_size)).trans (by first | (with_reducible assumption) | (go_simp; done) | (simp [*]; done))
                have hl5_1_2 : W5.cell? ⟨wr.heap.size, 2, none⟩ = some (st S) := (hc5 _ _ (by first | omega | go_size)).trans (by first | (with_reducible assumption) | go_cell)
                have hz5_1_2 : W5.frozen? ⟨wr.heap.size, 2, none⟩ = false := (hf5 _ _ (by first | omega | go_size)).trans (by first | (with_reducible assumption) | (go_simp; done) | (simp [*]; done))
                have hl5_1_3 : W5.cell? ⟨wr.heap.size, 3, none⟩ = some (.bool nd) := (hc5 _ _ (by first | omega | go_size)).trans (by first | (with_reducible assumption) | go_cell)
                have hz5_1_3 : W5.frozen? ⟨wr.heap.size, 3, none⟩ = false := (hf5 _ _ (by first | omega | go_size)).trans (by first | (with_reducible assumption) | (go_simp; done) | (simp [*]; done))
                have hk5_1 : wr.heap.size < W5.heap.size := by omega
                have hl5_2_0 : W5.cell? ⟨wr.heap.size + 1, 0, none⟩ = some (num K) := (hc5 _ _ (by first | omega | go_size)).trans (by first | (with_reducible assumption) | go_cell)
                have hz5_2_0 : W5.frozen? ⟨wr.heap.size + 1, 0, none⟩ = false := (hf5 _ _ (by first | omega | go_size)).trans (by first | (with_reducible assumption) | (go_simp; done) | (simp [*]; done))
                have hl5_2_1 : W5.cell? ⟨wr.heap.size + 1, 1, none⟩ = some (st O) := (hc5 _ _ (by first | omega | go_size)).trans (by first | (with_reducible assumption) | go_cell)
                have hz5_2_1 : W5.frozen? ⟨wr.heap.size + 1, 1, none⟩ = false := (hf5 _ _ (by first | omega | go_size)).trans (by first | (with_reducible assumption) | (go_simp; done) | (simp [*]; done))
                have hl5_2_2 : W5.cell? ⟨wr.heap.size + 1, 2, none⟩ = some (st G) := (hc5 _ _ (by first | omega | go_size)).trans (by first | (with_reducible assumption) | go_cell)
                have hz5_2_2 : W5.frozen? ⟨wr.heap.size + 1, 2, none⟩ = false := (hf5 _ _ (by first | omega | go_size)).trans (by first | (with_reducible assumption) | (go_simp; done) | (simp [*]; done))
                have hl5_2_3 : W5.cell? ⟨wr.heap.size + 1, 3, none⟩ = some (by8 s1) := (hc5 _ _ (by first | omega | go_size)).trans (by first | (with_reducible assumption) | go_cell)
                have hz5_2_3 : W5.frozen? ⟨wr.heap.size + 1, 3, none⟩ = false := (hf5 _ _ (by first | omega | go_size)).trans (by first | (with_reducible assumption) | (go_simp; done) | (simp [*]; done))
                have hk5_2 : wr.heap.size + 1 < W5.heap.size := by omega
                clear hg5 hc5 hf5
                go_wp2_with fail
                refine (check_is K O G2 s1 0 HC.out ad0 cap _ (HR.out.below (by go_grown))).mono ?_
                rintro eE W6 ⟨rfl, hg6⟩
                have hb6 : Below w.heap.size w W6 := (show Below w.heap.size w _ by go_grown).trans (hg6.mono (by first | omega | go_size))
                obtain ⟨hc6, hf6⟩ := bcell hg6
                have hs6 := hg6.size
                try simp only [World.size_alloc, World.size_setCell, World.size_drew] at hs6
                have hl6_0_0 : W6.cell? ⟨W3.heap.size, 0, none⟩ = some (num K) := (hc6 _ _ (by first | omega | go_size)).trans (by first | (with_reducible assumption) | go_cell)
                have hz6_0_0 : W6.frozen? ⟨W3.heap.size, 0, none⟩ = false := (hf6 _ _ (by first | omega | go_size)).trans (by first | (with_reducible assumption) | (go_simp; done) | (simp [*]; done))
                have hl6_0_1 : W6.cell? ⟨W3.heap.size, 1, none⟩ = some (st O) := (hc6 _ _ (by first | omega | go_size)).trans (by first | (with_reducible assumption) | go_cell)
                have hz6_0_1 : W6.frozen? ⟨W3.heap.size, 1, none⟩ = false := (hf6 _ _ (by first | omega | go_size)).trans (by first | (with_reducible assumption) | (go_simp; done) | (simp [*]; done))
                have hl6_0_2 : W6.cell? ⟨W3.heap.size, 2, none⟩ = some (st G2) := (hc6 _ _ (by first | omega | go_size)).trans (by first | (with_reducible assumption) | go_cell)
                have hz6_0_2 : W6.frozen? ⟨W3.heap.size, 2, none⟩ = false := (hf6 _ _ (by first | omega | go_size)).trans (by first | (with_reducible assumption) | (go_simp; done) | (simp [*]; done))
                have hl6_0_3 : W6.cell? ⟨W3.heap.size, 3, none⟩ = some (by8 s1) := (hc6 _ _ (by first | omega | go_size)).trans (by first | (with_reducible assumption) | go_cell)
                have hz6_0_3 : W6.frozen? ⟨W3.heap.size, 3, none⟩ = false := (hf6 _ _ (by first | omega | go_size)).trans (by first | (with_reducible assumption) | (go_simp; done) | (simp [*]; done))
                have hk6_0 : W3.heap.size < W6.heap.size := by omega
                have hl6_1_0 : W6.cell? ⟨wr.heap.size, 0, none⟩ = some (num kd) := (hc6 _ _ (by first | omega | go_size)).trans (by first | (with_reducible assumption) | go_cell)
                have hz6_1_0 : W6.frozen? ⟨wr.heap.size, 0, none⟩ = false := (hf6 _ _ (by first | omega | go_size)).trans (by first | (with_reducible assumption) | (go_simp; done) | (simp [*]; done))
                have hl6_1_1 : W6.cell? ⟨wr.heap.size, 1, none⟩ = some (by8 wd) := (hc6 _ _ (by first | omega | go_size)).trans (by first | (with_reducible assumption) | go_cell)
                have hz6_1_1 : W6.frozen? ⟨wr.heap.size, 1, none⟩ = false := (hf6 _ _ (by first | omega | go_size)).trans (by first | (with_reducible assumption) | (go_simp; done) | (simp [*]; done))
                have hl6_1_2 : W6.cell? ⟨wr.heap.size, 2, none⟩ = some (st S) := (hc6 _ _ (by first | omega | go_size)).trans (by first | (with_reducible assumption) | go_cell)
                have hz6_1_2 : W6.frozen? ⟨wr.heap.size, 2, none⟩ = false := (hf6 _ _ (by first | omega | go_size)).trans (by first | (with_reducible assumption) | (go_simp; done) | (simp [*]; done))
                have hl6_1_3 : W6.cell? ⟨wr.heap.size, 3, none⟩ = some (.bool nd) := (hc6 _ _ (by first | omega | go_size)).trans (by first | (with_reducible assumption) | go_cell)
                have hz6_1_3 : W6.frozen? ⟨wr.heap.size, 3, none⟩ = false := (hf6 _ _ (by first | omega | go_size)).trans (by first | (with_reducible assumption) | (go_simp; done) | (simp [*]; done))
                have hk6_1 : wr.heap.size < W6.heap.size := by omega
                have hl6_2_0 : W6.cell? ⟨wr.heap.size + 1, 0, none⟩ = some (num K) := (hc6 _ _ (by first | omega | go_size)).trans (by first | (with_reducible assumption) | go_cell)
                have hz6_2_0 : W6.frozen? ⟨wr.heap.size + 1, 0, none⟩ = false := (hf6 _ _ (by first | omega | go_size)).trans (by first | (with_reducible assumption) | (go_simp; done) | (simp [*]; done))
                have hl6_2_1 : W6.cell? ⟨wr.heap.size + 1, 1, none⟩ = some (st O) := (hc6 _ _ (by first | omega | go_size)).trans (by first | (with_reducible assumption) | go_cell)
                have hz6_2_1 : W6.frozen? ⟨wr.heap.size + 1, 1, none⟩ = false := (hf6 _ _ (by first | omega | go_size)).trans (by first | (with_reducible assumption) | (go_simp; done) | (simp [*]; done))
                have hl6_2_2 : W6.cell? ⟨wr.heap.size + 1, 2, none⟩ = some (st G) := (hc6 _ _ (by first | omega | go_size)).trans (by first | (with_reducible assumption) | go_cell)
                have hz6_2_2 : W6.frozen? ⟨wr.heap.size + 1, 2, none⟩ = false := (hf6 _ _ (by first | omega | go_size)).trans (by first | (with_reducible assumption) | (go_simp; done) | (simp [*]; done))
                have hl6_2_3 : W6.cell? ⟨wr.heap.size + 1, 3, none⟩ = some (by8 s1) := (hc6 _ _ (by first | omega | go_size)).trans (by first | (with_reducible assumption) | go_cell)
                have hz6_2_3 : W6.frozen? ⟨wr.heap.size + 1, 3, none⟩ = false := (hf6 _ _ (by first | omega | go_size)).trans (by first | (with_reducible assumption) | (go_simp; done) | (simp [*]; done))
                have hk6_2 : wr.heap.size + 1 < W6.heap.size := by omega
                clear hg6 hc6 hf6
                go_wp2_with fail
                refine (StR.accept_is K O G2 true HAcc.out _).mono ?_
                rintro eE W7 ⟨rfl, hg7⟩
                have hb7 : Below w.heap.size w W7 := (show Below w.heap.size w _ by go_grown).trans (hg7.mono (by first | omega | go_size))
                obtain ⟨hc7, hf7⟩ := bcell hg7
                have hs7 := hg7.size
                try simp only [World.size_alloc, World.size_setCell, World.size_drew] at hs7
                have hl7_0_0 : W7.cell? ⟨W3.heap.size, 0, none⟩ = some (num K) := (hc7 _ _ (by first | omega | go_size)).trans (by first | (with_reducible assumption) | go_cell)
                have hz7_0_0 : W7.frozen? ⟨W3.heap.size, 0, none⟩ = false := (hf7 _ _ (by first | omega | go_size)).trans (by first | (with_reducible assumption) | (go_simp; done) | (simp [*]; done))
                have hl7_0_1 : W7.cell? ⟨W3.heap.size, 1, none⟩ = some (st O) := (hc7 _ _ (by first | omega | go_size)).trans (by first | (with_reducible assumption) | go_cell)
                have hz7_0_1 : W7.frozen? ⟨W3.heap.size, 1, none⟩ = false := (hf7 _ _ (by first | omega | go_size)).trans (by first | (with_reducible assumption) | (go_simp; done) | (simp [*]; done))
                have hl7_0_2 : W7.cell? ⟨W3.heap.size, 2, none⟩ = some (st G2) := (hc7 _ _ (by first | omega | go_size)).trans (by first | (with_reducible assumption) | go_cell)
                have hz7_0_2 : W7.frozen? ⟨W3.heap.size, 2, none⟩ = false := (hf7 _ _ (by first | omega | go_size)).trans (by first | (with_reducible assumption) | (go_simp; done) | (simp [*]; done))
                have hl7_0_3 : W7.cell? ⟨W3.heap.size, 3, none⟩ = some (by8 s1) := (hc7 _ _ (by first | omega | go_size)).trans (by first | (with_reducible assumption) | go_cell)
                have hz7_0_3 : W7.frozen? ⟨W3.heap.size, 3, none⟩ = false := (hf7 _ _ (by first | omega | go_size)).trans (by first | (with_reducible assumption) | (go_simp; done) | (simp [*]; done))
                have hk7_0 : W3.heap.size < W7.heap.size := by omega
                have hl7_1_0 : W7.cell? ⟨wr.heap.size, 0, none⟩ = some (num kd) := (hc7 _ _ (by first | omega | go_size)).trans (by first | (with_reducible assumption) | go_cell)
                have hz7_1_0 : W7.frozen? ⟨wr.heap.size, 0, none⟩ = false := (hf7 _ _ (by first | omega | go_size)).trans (by first | (with_reducible assumption) | (go_simp; done) | (simp [*]; done))
                have hl7_1_1 : W7.cell? ⟨wr.heap.size, 1, none⟩ = some (by8 wd) := (hc7 _ _ (by first | omega | go_size)).trans (by first | (with_reducible assumption) | go_cell)
                have hz7_1_1 : W7.frozen? ⟨wr.heap.size, 1, none⟩ = false := (hf7 _ _ (by first | omega | go_size)).trans (by first | (with_reducible assumption) | (go_simp; done) | (simp [*]; done))
                have hl7_1_2 : W7.cell? ⟨wr.heap.size, 2, none⟩ = some (st S) := (hc7 _ _ (by first | omega | go_size)).trans (by first | (with_reducible assumption) | go_cell)
                have hz7_1_2 : W7.frozen? ⟨wr.heap.size, 2, none⟩ = false := (hf7 _ _ (by first | omega | go_size)).trans (by first | (with_reducible assumption) | (go_simp; done) | (simp [*]; done))
                have hl7_1_3 : W7.cell? ⟨wr.heap.size, 3, none⟩ = some (.bool nd) := (hc7 _ _ (by first | omega | go_size)).trans (by first | (with_reducible assumption) | go_cell)
                have hz7_1_3 : W7.frozen? ⟨wr.heap.size, 3, none⟩ = false := (hf7 _ _ (by first | omega | go_size)).trans (by first | (with_reducible assumption) | (go_simp; done) | (simp [*]; done))
                have hk7_1 : wr.heap.size < W7.heap.size := by omega
                have hl7_2_0 : W7.cell? ⟨wr.heap.size + 1, 0, none⟩ = some (num K) := (hc7 _ _ (by first | omega | go_size)).trans (by first | (with_reducible assumption) | go_cell)
                have hz7_2_0 : W7.frozen? ⟨wr.heap.size + 1, 0, none⟩ = false := (hf7 _ _ (by first | omega | go_size)).trans (by first | (with_reducible assumption) | (go_simp; done) | (simp [*]; done))
                have hl7_2_1 : W7.cell? ⟨wr.heap.size + 1, 1, none⟩ = some (st O) := (hc7 _ _ (by first | omega | go_size)).trans (by first | (with_reducible assumption) | go_cell)
                have hz7_2_1 : W7.frozen? ⟨wr.heap.size + 1, 1, none⟩ = false := (hf7 _ _ (by first | omega | go_size)).trans (by first | (with_reducible assumption) | (go_simp; done) | (simp [*]; done))
                have hl7_2_2 : W7.cell? ⟨wr.heap.size + 1, 2, none⟩ = some (st G) := (hc7 _ _ (by first | omega | go_size)).trans (by first | (with_reducible assumption) | go_cell)
                have hz7_2_2 : W7.frozen? ⟨wr.heap.size + 1, 2, none⟩ = false := (hf7 _ _ (by first | omega | go_size)).trans (by first | (with_reducible assumption) | (go_simp; done) | (simp [*]; done))
                have hl7_2_3 : W7.cell? ⟨wr.heap.size + 1, 3, none⟩ = some (by8 s1) := (hc7 _ _ (by first | omega | go_size)).trans (by first | (with_reducible assumption) | go_cell)
                have hz7_2_3 : W7.frozen? ⟨wr.heap.size + 1, 3, none⟩ = false := (hf7 _ _ (by first | omega | go_size)).trans (by first | (with_reducible assumption) | (go_simp; done) | (simp [*]; done))
                have hk7_2 : wr.heap.size + 1 < W7.heap.size := by omega
                clear hg7 hc7 hf7
                go_wp2_with fail
                refine Lib.wp_region_class (Lib.Held w _ [(W3.heap.size, 0, (num K : Value)), (W3.heap.size, 1, (st O : Value)), (W3.heap.size, 2, (st G2 : Value)), (W3.heap.size, 3, (by8 s1 : Value)), (wr.heap.size, 0, (num kd : Value)), (wr.heap.size, 1, (by8 wd : Value)), (wr.heap.size, 2, (st S : Value)), (wr.heap.size, 3, (.bool nd : Value)), (wr.heap.size + 1, 0, (num K : Value)), (wr.heap.size + 1, 1, (st O : Value)), (wr.heap.size + 1, 2, (st G : Value)), (wr.heap.size + 1, 3, (by8 s1 : Value))]) (by kernel_rfl) (by kernel_rfl) ⟨by go_grown, Below.refl _ _, ⟨by first | omega | go_size, by first | go_cell | (simp [*]; done), by first | (with_reducible assumption) | (go_simp; done) | (simp [*]; done)⟩, ⟨by first | omega | go_size, by first | go_cell | (simp [*]; done), by first | (with_reducible assumption) | (go_simp; done) | (simp [*]; done)⟩, ⟨by first | omega | go_size, by first | go_cell | (simp [*]; done), by first | (with_reducible assumption) | (go_simp; done) | (simp [*]; done)⟩, ⟨by first | omega | go_size, by first | go_cell | (simp [*]; done), by first | (with_reducible assumption) | (go_simp; done) | (simp [*]; done)⟩, ⟨by first | omega | go_size, by first | go_cell | (simp [*]; done), by first | (with_reducible assumption) | (go_simp; done) | (simp [*]; done)⟩, ⟨by first | omega | go_size, by first | go_cell | (simp [*]; done), by first | (with_reducible assumption) | (go_simp; done) | (simp [*]; done)⟩, ⟨by first | omega | go_size, by first | go_cell | (simp [*]; done), by first | (with_reducible assumption) | (go_simp; done) | (simp [*]; done)⟩, ⟨by first | omega | go_size, by first | go_cell | (simp [*]; done), by first | (with_reducible assumption) | (go_simp; done) | (simp [*]; done)⟩, ⟨by first | omega | go_size, by first | go_cell | (simp [*]; done), by first | (with_reducible assumption) | (go_simp; done) | (simp [*]; done)⟩, ⟨by first | omega | go_size, by first | go_cell | (simp [*]; done), by first | (with_reducible assumption) | (go_simp; done) | (simp [*]; done)⟩, ⟨by first | omega | go_size, by first | go_cell | (simp [*]; done), by first | (with_reducible assumption) | (go_simp; done) | (simp [*]; done)⟩, ⟨by first | omega | go_size, by first | go_cell | (simp [*]; done), by first | (with_reducible assumption) | (go_simp; done) | (simp [*]; done)⟩, trivial⟩ ?_
                repeat (first | go_big_quiet_step ((intro hq; first | rfl | (go_at_call 12; exact Lib.Held.call hq (runs_is K O G2 s1 _ HRun.out ad0 cap _ (HR.out.below hq.1))) | (have hq' := hq; obtain ⟨hbq, heq, ⟨hkq_0, hlq_0, hzq_0⟩, ⟨hkq_1, hlq_1, hzq_1⟩, ⟨hkq_2, hlq_2, hzq_2⟩, ⟨hkq_3, hlq_3, hzq_3⟩, ⟨hkq_4, hlq_4, hzq_4⟩, ⟨hkq_5, hlq_5, hzq_5⟩, ⟨hkq_6, hlq_6, hzq_6⟩, ⟨hkq_7, hlq_7, hzq_7⟩, ⟨hkq_8, hlq_8, hzq_8⟩, ⟨hkq_9, hlq_9, hzq_9⟩, ⟨hkq_10, hlq_10, hzq_10⟩, ⟨hkq_11, hlq_11, hzq_11⟩, _⟩ := hq'; go_simp; rfl))) | quiet_step ((intro hq; first | rfl | (go_at_call 12; exact Lib.Held.call hq (runs_is K O G2 s1 _ HRun.out ad0 cap _ (HR.out.below hq.1))) | (have hq' := hq; obtain ⟨hbq, heq, ⟨hkq_0, hlq_0, hzq_0⟩, ⟨hkq_1, hlq_1, hzq_1⟩, ⟨hkq_2, hlq_2, hzq_2⟩, ⟨hkq_3, hlq_3, hzq_3⟩, ⟨hkq_4, hlq_4, hzq_4⟩, ⟨hkq_5, hlq_5, hzq_5⟩, ⟨hkq_6, hlq_6, hzq_6⟩, ⟨hkq_7, hlq_7, hzq_7⟩, ⟨hkq_8, hlq_8, hzq_8⟩, ⟨hkq_9, hlq_9, hzq_9⟩, ⟨hkq_10, hlq_10, hzq_10⟩, ⟨hkq_11, hlq_11, hzq_11⟩, _⟩ := hq'; go_simp; rfl))))
                refine wpQuiet_nil ?_
                intro W8 hq8
                obtain ⟨hb8, he8, ⟨hk8_0, hl8_0, hz8_0⟩, ⟨hk8_1, hl8_1, hz8_1⟩, ⟨hk8_2, hl8_2, hz8_2⟩, ⟨hk8_3, hl8_3, hz8_3⟩, ⟨hk8_4, hl8_4, hz8_4⟩, ⟨hk8_5, hl8_5, hz8_5⟩, ⟨hk8_6, hl8_6, hz8_6⟩, ⟨hk8_7, hl8_7, hz8_7⟩, ⟨hk8_8, hl8_8, hz8_8⟩, ⟨hk8_9, hl8_9, hz8_9⟩, ⟨hk8_10, hl8_10, hz8_10⟩, ⟨hk8_11, hl8_11, hz8_11⟩, _⟩ := hq8
                have hs8 := he8.size
                try simp only [World.size_alloc, World.size_setCell, World.size_drew] at hs8
                go_wp2_with fail
                go_roundw
                case rel => exact ⟨j + 1, G2, s1, by omega, by go_num, HV2.out, by go_grown, by go_size, ⟨⟨by go_cell, by go_cell, by go_cell, by go_cell⟩, by first | (with_reducible assumption) | (go_simp; done) | (simp [*]; done), by first | (with_reducible assumption) | (go_simp; done) | (simp [*]; done), by first | (with_reducible assumption) | (go_simp; done) | (simp [*]; done), by first | (with_reducible assumption) | (go_simp; done) | (simp [*]; done)⟩⟩
                case measure => simp [intOf]; omega
        · have dr : (r == 2) = false := by simpa using hr
          clear hr
          cases hz : (wd == 0#8) with
          | true =>
            obtain rfl := eq_of_beq hz
            clear hz
            as_aux_lemma =>
              have HV2 := Lib.hid (v0 HO.out)
              have HC := Lib.hid (show (if validB K O 0#64 0#8 then (0 : Int) else 2) = 0 by rw [HV2.out]; rfl)
              have cz : (nb 0#8 == 0) = true := rfl
              have cn : (nb 0#8 != 0) = false := rfl
              have cg : (nu 0#64 != 0) = false := rfl
              go_wp2_with fail
              refine (write_zero K O G s1 HV1.out ad0 cap _ (HR.out.below (by go_grown))).mono ?_
              rintro eE W5 ⟨rfl, hg5⟩
              have hb5 : Below w.heap.size w W5 := (show Below w.heap.size w _ by go_grown).trans (hg5.mono (by first | omega | go_size))
              obtain ⟨hc5, hf5⟩ := bcell hg5
              have hs5 := hg5.size
              try simp only [World.size_alloc, World.size_setCell, World.size_drew] at hs5
              have hl5_0_0 : W5.cell? ⟨W3.heap.size, 0, none⟩ = some (num K) := (hc5 _ _ (by first | omega | go_size)).trans (by first | (with_reducible assumption) | go_cell)
              have hz5_0_0 : W5.frozen? ⟨W3.heap.size, 0, none⟩ = false := (hf5 _ _ (by first | omega | go_size)).trans (by first | (with_reducible assumption) | (go_simp; done) | (simp [*]; done))
              have hl5_0_1 : W5.cell? ⟨W3.heap.size, 1, none⟩ = some (st O) := (hc5 _ _ (by first | omega | go_size)).trans (by first | (with_reducible assumption) | go_cell)
              have hz5_0_1 : W5.frozen? ⟨W3.heap.size, 1, none⟩ = false := (hf5 _ _ (by first | omega | go_size)).trans (by first | (with_reducible assumption) | (go_simp; done) | (simp [*]; done))
              have hl5_0_2 : W5.cell? ⟨W3.heap.size, 2, none⟩ = some (st G) := (hc5 _ _ (by first | omega | go_size)).trans (by first | (with_reducible assumption) | go_cell)
              have hz5_0_2 : W5.frozen? ⟨W3.heap.size, 2, none⟩ = false := (hf5 _ _ (by first | omega | go_size)).trans (by first | (with_reducible assumption) | (go_simp; done) | (simp [*]; done))
              have hl5_0_3 : W5.cell? ⟨W3.heap.size, 3, none⟩ = some (by8 s1) := (hc5 _ _ (by first | omega | go_size)).trans (by first | (with_reducible assumption) | go_cell)
              have hz5_0_3 : W5.frozen? ⟨W3.heap.size, 3, none⟩ = false := (hf5 _ _ (by first | omega | go_size)).trans (by first | (with_reducible assumption) | (go_simp; done) | (simp [*]; done))
              have hk5_0 : W3.heap.size < W5.heap.size := by omega
              have hl5_1_0 : W5.cell? ⟨wr.heap.size, 0, none⟩ = some (num kd) := (hc5 _ _ (by first | omega | go_size)).trans (by first | (with_reducible assumption) | go_cell)
              have hz5_1_0 : W5.frozen? ⟨wr.heap.size, 0, none⟩ = false := (hf5 _ _ (by first | omega | go_size)).trans (by first | (with_reducible assumption) | (go_simp; done) | (simp [*]; done))
              have hl5_1_1 : W5.cell? ⟨wr.heap.size, 1, none⟩ = some (by8 0#8) := (hc5 _ _ (by first | omega | go_size)).trans (by first | (with_reducible assumption) | go_cell)
              have hz5_1_1 : W5.frozen? ⟨wr.heap.size, 1, none⟩ = false := (hf5 _ _ (by first | omega | go_size)).trans (by first | (with_reducible assumption) | (go_simp; done) | (simp [*]; done))
              have hl5_1_2 : W5.cell? ⟨wr.heap.size, 2, none⟩ = some (st S) := (hc5 _ _ (by first | omega | go_size)).trans (by first | (with_reducible assumption) | go_cell)
              have hz5_1_2 : W5.frozen? ⟨wr.heap.size, 2, none⟩ = false := (hf5 _ _ (by first | omega | go_size)).trans (by first | (with_reducible assumption) | (go_simp; done) | (simp [*]; done))
              have hl5_1_3 : W5.cell? ⟨wr.heap.size, 3, none⟩ = some (.bool nd) := (hc5 _ _ (by first | omega | go_size)).trans (by first | (with_reducible assumption) | go_cell)
              have hz5_1_3 : W5.frozen? ⟨wr.heap.size, 3, none⟩ = false := (hf5 _ _ (by first | omega | go_size)).trans (by first | (with_reducible assumption) | (go_simp; done) | (simp [*]; done))
              have hk5_1 : wr.heap.size < W5.heap.size := by omega
              have hl5_2_0 : W5.cell? ⟨wr.heap.size + 1, 0, none⟩ = some (num K) := (hc5 _ _ (by first | omega | go_size)).trans (by first | (with_reducible assumption) | go_cell)
              have hz5_2_0 : W5.frozen? ⟨wr.heap.size + 1, 0, none⟩ = false := (hf5 _ _ (by first | omega | go_size)).trans (by first | (with_reducible assumption) | (go_simp; done) | (simp [*]; done))
              have hl5_2_1 : W5.cell? ⟨wr.heap.size + 1, 1, none⟩ = some (st O) := (hc5 _ _ (by first | omega | go_size)).trans (by first | (with_reducible assumption) | go_cell)
              have hz5_2_1 : W5.frozen? ⟨wr.heap.size + 1, 1, none⟩ = false := (hf5 _ _ (by first | omega | go_size)).trans (by first | (with_reducible assumption) | (go_simp; done) | (simp [*]; done))
              have hl5_2_2 : W5.cell? ⟨wr.heap.size + 1, 2, none⟩ = some (st G) := (hc5 _ _ (by first | omega | go_size)).trans (by first | (with_reducible assumption) | go_cell)
              have hz5_2_2 : W5.frozen? ⟨wr.heap.size + 1, 2, none⟩ = false := (hf5 _ _ (by first | omega | go_size)).trans (by first | (with_reducible assumption) | (go_simp; done) | (simp [*]; done))
              have hl5_2_3 : W5.cell? ⟨wr.heap.size + 1, 3, none⟩ = some (by8 s1) := (hc5 _ _ (by first | omega | go_size)).trans (by first | (with_reducible assumption) | go_cell)
              have hz5_2_3 : W5.frozen? ⟨wr.heap.size + 1, 3, none⟩ = false := (hf5 _ _ (by first | omega | go_size)).trans (by first | (with_reducible assumption) | (go_simp; done) | (simp [*]; done))
              have hk5_2 : wr.heap.size + 1 < W5.heap.size := by omega
              clear hg5 hc5 hf5
              go_wp2_with fail
              refine (check_is K O 0#64 0#8 0 HC.out ad0 cap _ (HR.out.below (by go_grown))).mono ?_
              rintro eE W6 ⟨rfl, hg6⟩
              have hb6 : Below w.heap.size w W6 := (show Below w.heap.size w _ by go_grown).trans (hg6.mono (by first | omega | go_size))
              obtain ⟨hc6, hf6⟩ := bcell hg6
              have hs6 := hg6.size
              try simp only [World.size_alloc, World.size_setCell, World.size_drew] at hs6
              have hl6_0_0 : W6.cell? ⟨W3.heap.size, 0, none⟩ = some (num K) := (hc6 _ _ (by first | omega | go_size)).trans (by first | (with_reducible assumption) | go_cell)
              have hz6_0_0 : W6.frozen? ⟨W3.heap.size, 0, none⟩ = false := (hf6 _ _ (by first | omega | go_size)).trans (by first | (with_reducible assumption) | (go_simp; done) | (simp [*]; done))
              have hl6_0_1 : W6.cell? ⟨W3.heap.size, 1, none⟩ = some (st O) := (hc6 _ _ (by first | omega | go_size)).trans (by first | (with_reducible assumption) | go_cell)
              have hz6_0_1 : W6.frozen? ⟨W3.heap.size, 1, none⟩ = false := (hf6 _ _ (by first | omega | go_size)).trans (by first | (with_reducible assumption) | (go_simp; done) | (simp [*]; done))
              have hl6_0_2 : W6.cell? ⟨W3.heap.size, 2, none⟩ = some (st 0#64) := (hc6 _ _ (by first | omega | go_size)).trans (by first | (with_reducible assumption) | go_cell)
              have hz6_0_2 : W6.frozen? ⟨W3.heap.size, 2, none⟩ = false := (hf6 _ _ (by first | omega | go_size)).trans (by first | (with_reducible assumption) | (go_simp; done) | (simp [*]; done))
              have hl6_0_3 : W6.cell? ⟨W3.heap.size, 3, none⟩ = some (by8 0#8) := (hc6 _ _ (by first | omega | go_size)).trans (by first | (with_reducible assumption) | go_cell)
              have hz6_0_3 : W6.frozen? ⟨W3.heap.size, 3, none⟩ = false := (hf6 _ _ (by first | omega | go_size)).trans (by first | (with_reducible assumption) | (go_simp; done) | (simp [*]; done))
              have hk6_0 : W3.heap.size < W6.heap.size := by omega
              have hl6_1_0 : W6.cell? ⟨wr.heap.size, 0, none⟩ = some (num kd) := (hc6 _ _ (by first | omega | go_size)).trans (by first | (with_reducible assumption) | go_cell)
              have hz6_1_0 : W6.frozen? ⟨wr.heap.size, 0, none⟩ = false := (hf6 _ _ (by first | omega | go_size)).trans (by first | (with_reducible assumption) | (go_simp; done) | (simp [*]; done))
              have hl6_1_1 : W6.cell? ⟨wr.heap.size, 1, none⟩ = some (by8 0#8) := (hc6 _ _ (by first | omega | go_size)).trans (by first | (with_reducible assumption) | go_cell)
              have hz6_1_1 : W6.frozen? ⟨wr.heap.size, 1, none⟩ = false := (hf6 _ _ (by first | omega | go_size)).trans (by first | (with_reducible assumption) | (go_simp; done) | (simp [*]; done))
              have hl6_1_2 : W6.cell? ⟨wr.heap.size, 2, none⟩ = some (st S) := (hc6 _ _ (by first | omega | go_size)).trans (by first | (with_reducible assumption) | go_cell)
              have hz6_1_2 : W6.frozen? ⟨wr.heap.size, 2, none⟩ = false := (hf6 _ _ (by first | omega | go_size)).trans (by first | (with_reducible assumption) | (go_simp; done) | (simp [*]; done))
              have hl6_1_3 : W6.cell? ⟨wr.heap.size, 3, none⟩ = some (.bool nd) := (hc6 _ _ (by first | omega | go_size)).trans (by first | (with_reducible assumption) | go_cell)
              have hz6_1_3 : W6.frozen? ⟨wr.heap.size, 3, none⟩ = false := (hf6 _ _ (by first | omega | go_size)).trans (by first | (with_reducible assumption) | (go_simp; done) | (simp [*]; done))
              have hk6_1 : wr.heap.size < W6.heap.size := by omega
              have hl6_2_0 : W6.cell? ⟨wr.heap.size + 1, 0, none⟩ = some (num K) := (hc6 _ _ (by first | omega | go_size)).trans (by first | (with_reducible assumption) | go_cell)
              have hz6_2_0 : W6.frozen? ⟨wr.heap.size + 1, 0, none⟩ = false := (hf6 _ _ (by first | omega | go_size)).trans (by first | (with_reducible assumption) | (go_simp; done) | (simp [*]; done))
              have hl6_2_1 : W6.cell? ⟨wr.heap.size + 1, 1, none⟩ = some (st O) := (hc6 _ _ (by first | omega | go_size)).trans (by first | (with_reducible assumption) | go_cell)
              have hz6_2_1 : W6.frozen? ⟨wr.heap.size + 1, 1, none⟩ = false := (hf6 _ _ (by first | omega | go_size)).trans (by first | (with_reducible assumption) | (go_simp; done) | (simp [*]; done))
              have hl6_2_2 : W6.cell? ⟨wr.heap.size + 1, 2, none⟩ = some (st G) := (hc6 _ _ (by first | omega | go_size)).trans (by first | (with_reducible assumption) | go_cell)
              have hz6_2_2 : W6.frozen? ⟨wr.heap.size + 1, 2, none⟩ = false := (hf6 _ _ (by first | omega | go_size)).trans (by first | (with_reducible assumption) | (go_simp; done) | (simp [*]; done))
              have hl6_2_3 : W6.cell? ⟨wr.heap.size + 1, 3, none⟩ = some (by8 s1) := (hc6 _ _ (by first | omega | go_size)).trans (by first | (with_reducible assumption) | go_cell)
              have hz6_2_3 : W6.frozen? ⟨wr.heap.size + 1, 3, none⟩ = false := (hf6 _ _ (by first | omega | go_size)).trans (by first | (with_reducible assumption) | (go_simp; done) | (simp [*]; done))
              have hk6_2 : wr.heap.size + 1 < W6.heap.size := by omega
              clear hg6 hc6 hf6
              go_wp2_with fail
              go_roundw
              case rel => exact ⟨j + 1, 0#64, 0#8, by omega, by go_num, HV2.out, by go_grown, by go_size, ⟨⟨by go_cell, by go_cell, by go_cell, by go_cell⟩, by first | (with_reducible assumption) | (go_simp; done) | (simp [*]; done), by first | (with_reducible assumption) | (go_simp; done) | (simp [*]; done), by first | (with_reducible assumption) | (go_simp; done) | (simp [*]; done), by first | (with_reducible assumption) | (go_simp; done) | (simp [*]; done)⟩⟩
              case measure => simp [intOf]; omega
          | false =>
            have HZ := Lib.hid hz
            have cz : (nb wd == 0) = false := by rw [nb_beq0]; exact hz
            clear hz
            have hok1 : okB s1 (acceptB K O G) (G == 0#64) = true := by have h := HV1.out; rw [valid_ok, HO.out] at h; exact h
            obtain ⟨s2, hS2⟩ : ∃ s2, setTo s1 wd (acceptB K O G) 5 = s2 := ⟨_, rfl⟩
            have HV2 := Lib.hid (show validB K O G s2 = true by rw [← hS2, valid_ok, HO.out, set_ok wd hok1]; rfl)
            have e0 : bits .andNot .u8 (nb s1) (nb s2) = 0 := by rw [y_andNot, ← hS2, kept wd hok1]; rfl
            have eC := y_andNot s2 s1
            obtain ⟨C, hC⟩ : ∃ C, s2 &&& ~~~s1 = C := ⟨_, rfl⟩
            have eD : bits .andNot .u8 (nb C) (nb wd) = 0 := by rw [y_andNot, ← hC, ← hS2, come wd hok1]; rfl
            rw [hC] at eC
            have HS2 := Lib.hid hS2
            clear hok1 hS2 hC
            have HC := Lib.hid (show (if validB K O G s2 then (0 : Int) else 2) = 0 by rw [HV2.out]; rfl)
            have HRun := Lib.hid (runs_eq HV2.out)
            have hok2 : okB s2 (acceptB K O G) (G == 0#64) = true := by have h := HV2.out; rw [valid_ok, HO.out] at h; exact h
            have f8 : bits .and .u8 (nb s2) 8 = nb (s2 &&& 8#8) := y_and s2 8#8
            have f4 : bits .and .u8 (nb s2) 4 = nb (s2 &&& 4#8) := y_and s2 4#8
            have f2 : bits .and .u8 (nb s2) 2 = nb (s2 &&& 2#8) := y_and s2 2#8
            have f1 : bits .and .u8 (nb s2) 1 = nb (s2 &&& 1#8) := y_and s2 1#8
            have f196 : bits .and .u8 (nb s2) 196 = nb (s2 &&& 196#8) := y_and s2 196#8
            have g196 : (nb (s2 &&& 196#8) == 4) = (s2 &&& 196#8 == 4#8) := nb_beq _ 4#8
            have g8 := bits_of s2 8#8
            have k8 := bits_no s2 8#8
            have g4 := bits_of s2 4#8
            have g2 := bits_of s2 2#8
            have k1 := bits_no s2 1#8
            rcases four hok2 with ⟨b2, b8, b4⟩ | ⟨b2, b1, b8, b4⟩ | ⟨ba, b2, b1, b8, b4⟩ | ⟨ba, b2, b1, b8, b4⟩
            · as_aux_lemma =>
                rw [b8] at g8 k8; rw [b4] at g4; rw [b2] at g2
                clear hok2 b2 b8 b4
                go_wp2_with fail
                refine (write_to K O G s1 wd s2 HV1.out HZ.out HS2.out ad0 cap _ (HR.out.below (by go_grown))).mono ?_
                rintro eE W5 ⟨rfl, hg5⟩
                have hb5 : Below w.heap.size w W5 := (show Below w.heap.size w _ by go_grown).trans (hg5.mono (by first | omega | go_size))
                obtain ⟨hc5, hf5⟩ := bcell hg5
                have hs5 := hg5.size
                try simp only [World.size_alloc, World.size_setCell, World.size_drew] at hs5
                have hl5_0_0 : W5.cell? ⟨W3.heap.size, 0, none⟩ = some (num K) := (hc5 _ _ (by first | omega | go_size)).trans (by first | (with_reducible assumption) | go_cell)
                have hz5_0_0 : W5.frozen? ⟨W3.heap.size, 0, none⟩ = false := (hf5 _ _ (by first | omega | go_size)).trans (by first | (with_reducible assumption) | (go_simp; done) | (simp [*]; done))
                have hl5_0_1 : W5.cell? ⟨W3.heap.size, 1, none⟩ = some (st O) := (hc5 _ _ (by first | omega | go_size)).trans (by first | (with_reducible assumption) | go_cell)
                have hz5_0_1 : W5.frozen? ⟨W3.heap.size, 1, none⟩ = false := (hf5 _ _ (by first | omega | go_size)).trans (by first | (with_reducible assumption) | (go_simp; done) | (simp [*]; done))
                have hl5_0_2 : W5.cell? ⟨W3.heap.size, 2, none⟩ = some (st G) := (hc5 _ _ (by first | omega | go_size)).trans (by first | (with_reducible assumption) | go_cell)
                have hz5_0_2 : W5.frozen? ⟨W3.heap.size, 2, none⟩ = false := (hf5 _ _ (by first | omega | go_size)).trans (by first | (with_reducible assumption) | (go_simp; done) | (simp [*]; done))
                have hl5_0_3 : W5.cell? ⟨W3.heap.size, 3, none⟩ = some (by8 s1) := (hc5 _ _ (by first | omega | go_size)).trans (by first | (with_reducible assumption) | go_cell)
                have hz5_0_3 : W5.frozen? ⟨W3.heap.size, 3, none⟩ = false := (hf5 _ _ (by first | omega | go_size)).trans (by first | (with_reducible assumption) | (go_simp; done) | (simp [*]; done))
                have hk5_0 : W3.heap.size < W5.heap.size := by omega
                have hl5_1_0 : W5.cell? ⟨wr.heap.size, 0, none⟩ = some (num kd) := (hc5 _ _ (by first | omega | go_size)).trans (by first | (with_reducible assumption) | go_cell)
                have hz5_1_0 : W5.frozen? ⟨wr.heap.size, 0, none⟩ = false := (hf5 _ _ (by first | omega | go_size)).trans (by first | (with_reducible assumption) | (go_simp; done) | (simp [*]; done))
                have hl5_1_1 : W5.cell? ⟨wr.heap.size, 1, none⟩ = some (by8 wd) := (hc5 _ _ (by first | omega | go_size)).trans (by first | (with_reducible assumption) | go_cell)
                have hz5_1_1 : W5.frozen? ⟨wr.heap.size, 1, none⟩ = false := (hf5 _ _ (by first | omega | go_size)).trans (by first | (with_reducible assumption) | (go_simp; done) | (simp [*]; done))
                have hl5_1_2 : W5.cell? ⟨wr.heap.size, 2, none⟩ = some (st S) := (hc5 _ _ (by first | omega | go_size)).trans (by first | (with_reducible assumption) | go_cell)
                have hz5_1_2 : W5.frozen? ⟨wr.heap.size, 2, none⟩ = false := (hf5 _ _ (by first | omega | go_size)).trans (by first | (with_reducible assumption) | (go_simp; done) | (simp [*]; done))
                have hl5_1_3 : W5.cell? ⟨wr.heap.size, 3, none⟩ = some (.bool nd) := (hc5 _ _ (by first | omega | go_size)).trans (by first | (with_reducible assumption) | go_cell)
                have hz5_1_3 : W5.frozen? ⟨wr.heap.size, 3, none⟩ = false := (hf5 _ _ (by first | omega | go_size)).trans (by first | (with_reducible assumption) | (go_simp; done) | (simp [*]; done))
                have hk5_1 : wr.heap.size < W5.heap.size := by omega
                have hl5_2_0 : W5.cell? ⟨wr.heap.size + 1, 0, none⟩ = some (num K) := (hc5 _ _ (by first | omega | go_size)).trans (by first | (with_reducible assumption) | go_cell)
                have hz5_2_0 : W5.frozen? ⟨wr.heap.size + 1, 0, none⟩ = false := (hf5 _ _ (by first | omega | go_size)).trans (by first | (with_reducible assumption) | (go_simp; done) | (simp [*]; done))
                have hl5_2_1 : W5.cell? ⟨wr.heap.size + 1, 1, none⟩ = some (st O) := (hc5 _ _ (by first | omega | go_size)).trans (by first | (with_reducible assumption) | go_cell)
                have hz5_2_1 : W5.frozen? ⟨wr.heap.size + 1, 1, none⟩ = false := (hf5 _ _ (by first | omega | go_size)).trans (by first | (with_reducible assumption) | (go_simp; done) | (simp [*]; done))
                have hl5_2_2 : W5.cell? ⟨wr.heap.size + 1, 2, none⟩ = some (st G) := (hc5 _ _ (by first | omega | go_size)).trans (by first | (with_reducible assumption) | go_cell)
                have hz5_2_2 : W5.frozen? ⟨wr.heap.size + 1, 2, none⟩ = false := (hf5 _ _ (by first | omega | go_size)).trans (by first | (with_reducible assumption) | (go_simp; done) | (simp [*]; done))
                have hl5_2_3 : W5.cell? ⟨wr.heap.size + 1, 3, none⟩ = some (by8 s1) := (hc5 _ _ (by first | omega | go_size)).trans (by first | (with_reducible assumption) | go_cell)
                have hz5_2_3 : W5.frozen? ⟨wr.heap.size + 1, 3, none⟩ = false := (hf5 _ _ (by first | omega | go_size)).trans (by first | (with_reducible assumption) | (go_simp; done) | (simp [*]; done))
                have hk5_2 : wr.heap.size + 1 < W5.heap.size := by omega
                clear hg5 hc5 hf5
                go_wp2_with fail
                refine (check_is K O G s2 0 HC.out ad0 cap _ (HR.out.below (by go_grown))).mono ?_
                rintro eE W6 ⟨rfl, hg6⟩
                have hb6 : Below w.heap.size w W6 := (show Below w.heap.size w _ by go_grown).trans (hg6.mono (by first | omega | go_size))
                obtain ⟨hc6, hf6⟩ := bcell hg6
                have hs6 := hg6.size
                try simp only [World.size_alloc, World.size_setCell, World.size_drew] at hs6
                have hl6_0_0 : W6.cell? ⟨W3.heap.size, 0, none⟩ = some (num K) := (hc6 _ _ (by first | omega | go_size)).trans (by first | (with_reducible assumption) | go_cell)
                have hz6_0_0 : W6.frozen? ⟨W3.heap.size, 0, none⟩ = false := (hf6 _ _ (by first | omega | go_size)).trans (by first | (with_reducible assumption) | (go_simp; done) | (simp [*]; done))
                have hl6_0_1 : W6.cell? ⟨W3.heap.size, 1, none⟩ = some (st O) := (hc6 _ _ (by first | omega | go_size)).trans (by first | (with_reducible assumption) | go_cell)
                have hz6_0_1 : W6.frozen? ⟨W3.heap.size, 1, none⟩ = false := (hf6 _ _ (by first | omega | go_size)).trans (by first | (with_reducible assumption) | (go_simp; done) | (simp [*]; done))
                have hl6_0_2 : W6.cell? ⟨W3.heap.size, 2, none⟩ = some (st G) := (hc6 _ _ (by first | omega | go_size)).trans (by first | (with_reducible assumption) | go_cell)
                have hz6_0_2 : W6.frozen? ⟨W3.heap.size, 2, none⟩ = false := (hf6 _ _ (by first | omega | go_size)).trans (by first | (with_reducible assumption) | (go_simp; done) | (simp [*]; done))
                have hl6_0_3 : W6.cell? ⟨W3.heap.size, 3, none⟩ = some (by8 s2) := (hc6 _ _ (by first | omega | go_size)).trans (by first | (with_reducible assumption) | go_cell)
                have hz6_0_3 : W6.frozen? ⟨W3.heap.size, 3, none⟩ = false := (hf6 _ _ (by first | omega | go_size)).trans (by first | (with_reducible assumption) | (go_simp; done) | (simp [*]; done))
                have hk6_0 : W3.heap.size < W6.heap.size := by omega
                have hl6_1_0 : W6.cell? ⟨wr.heap.size, 0, none⟩ = some (num kd) := (hc6 _ _ (by first | omega | go_size)).trans (by first | (with_reducible assumption) | go_cell)
                have hz6_1_0 : W6.frozen? ⟨wr.heap.size, 0, none⟩ = false := (hf6 _ _ (by first | omega | go_size)).trans (by first | (with_reducible assumption) | (go_simp; done) | (simp [*]; done))
                have hl6_1_1 : W6.cell? ⟨wr.heap.size, 1, none⟩ = some (by8 wd) := (hc6 _ _ (by first | omega | go_size)).trans (by first | (with_reducible assumption) | go_cell)
                have hz6_1_1 : W6.frozen? ⟨wr.heap.size, 1, none⟩ = false := (hf6 _ _ (by first | omega | go_size)).trans (by first | (with_reducible assumption) | (go_simp; done) | (simp [*]; done))
                have hl6_1_2 : W6.cell? ⟨wr.heap.size, 2, none⟩ = some (st S) := (hc6 _ _ (by first | omega | go_size)).trans (by first | (with_reducible assumption) | go_cell)
                have hz6_1_2 : W6.frozen? ⟨wr.heap.size, 2, none⟩ = false := (hf6 _ _ (by first | omega | go_size)).trans (by first | (with_reducible assumption) | (go_simp; done) | (simp [*]; done))
                have hl6_1_3 : W6.cell? ⟨wr.heap.size, 3, none⟩ = some (.bool nd) := (hc6 _ _ (by first | omega | go_size)).trans (by first | (with_reducible assumption) | go_cell)
                have hz6_1_3 : W6.frozen? ⟨wr.heap.size, 3, none⟩ = false := (hf6 _ _ (by first | omega | go_size)).trans (by first | (with_reducible assumption) | (go_simp; done) | (simp [*]; done))
                have hk6_1 : wr.heap.size < W6.heap.size := by omega
                have hl6_2_0 : W6.cell? ⟨wr.heap.size + 1, 0, none⟩ = some (num K) := (hc6 _ _ (by first | omega | go_size)).trans (by first | (with_reducible assumption) | go_cell)
                have hz6_2_0 : W6.frozen? ⟨wr.heap.size + 1, 0, none⟩ = false := (hf6 _ _ (by first | omega | go_size)).trans (by first | (with_reducible assumption) | (go_simp; done) | (simp [*]; done))
                have hl6_2_1 : W6.cell? ⟨wr.heap.size + 1, 1, none⟩ = some (st O) := (hc6 _ _ (by first | omega | go_size)).trans (by first | (with_reducible assumption) | go_cell)
                have hz6_2_1 : W6.frozen? ⟨wr.heap.size + 1, 1, none⟩ = false := (hf6 _ _ (by first | omega | go_size)).trans (by first | (with_reducible assumption) | (go_simp; done) | (simp [*]; done))
                have hl6_2_2 : W6.cell? ⟨wr.heap.size + 1, 2, none⟩ = some (st G) := (hc6 _ _ (by first | omega | go_size)).trans (by first | (with_reducible assumption) | go_cell)
                have hz6_2_2 : W6.frozen? ⟨wr.heap.size + 1, 2, none⟩ = false := (hf6 _ _ (by first | omega | go_size)).trans (by first | (with_reducible assumption) | (go_simp; done) | (simp [*]; done))
                have hl6_2_3 : W6.cell? ⟨wr.heap.size + 1, 3, none⟩ = some (by8 s1) := (hc6 _ _ (by first | omega | go_size)).trans (by first | (with_reducible assumption) | go_cell)
                have hz6_2_3 : W6.frozen? ⟨wr.heap.size + 1, 3, none⟩ = false := (hf6 _ _ (by first | omega | go_size)).trans (by first | (with_reducible assumption) | (go_simp; done) | (simp [*]; done))
                have hk6_2 : wr.heap.size + 1 < W6.heap.size := by omega
                clear hg6 hc6 hf6
                go_wp2_with fail
                refine Lib.wp_region_class (Lib.Held w _ [(W3.heap.size, 0, (num K : Value)), (W3.heap.size, 1, (st O : Value)), (W3.heap.size, 2, (st G : Value)), (W3.heap.size, 3, (by8 s2 : Value)), (wr.heap.size, 0, (num kd : Value)), (wr.heap.size, 1, (by8 wd : Value)), (wr.heap.size, 2, (st S : Value)), (wr.heap.size, 3, (.bool nd : Value)), (wr.heap.size + 1, 0, (num K : Value)), (wr.heap.size + 1, 1, (st O : Value)), (wr.heap.size + 1, 2, (st G : Value)), (wr.heap.size + 1, 3, (by8 s1 : Value))]) (by kernel_rfl) (by kernel_rfl) ⟨by go_grown, Below.refl _ _, ⟨by first | omega | go_size, by first | go_cell | (simp [*]; done), by first | (with_reducible assumption) | (go_simp; done) | (simp [*]; done)⟩, ⟨by first | omega | go_size, by first | go_cell | (simp [*]; done), by first | (with_reducible assumption) | (go_simp; done) | (simp [*]; done)⟩, ⟨by first | omega | go_size, by first | go_cell | (simp [*]; done), by first | (with_reducible assumption) | (go_simp; done) | (simp [*]; done)⟩, ⟨by first | omega | go_size, by first | go_cell | (simp [*]; done), by first | (with_reducible assumption) | (go_simp; done) | (simp [*]; done)⟩, ⟨by first | omega | go_size, by first | go_cell | (simp [*]; done), by first | (with_reducible assumption) | (go_simp; done) | (simp [*]; done)⟩, ⟨by first | omega | go_size, by first | go_cell | (simp [*]; done), by first | (with_reducible assumption) | (go_simp; done) | (simp [*]; done)⟩, ⟨by first | omega | go_size, by first | go_cell | (simp [*]; done), by first | (with_reducible assumption) | (go_simp; done) | (simp [*]; done)⟩, ⟨by first | omega | go_size, by first | go_cell | (simp [*]; done), by first | (with_reducible assumption) | (go_simp; done) | (simp [*]; done)⟩, ⟨by first | omega | go_size, by first | go_cell | (simp [*]; done), by first | (with_reducible assumption) | (go_simp; done) | (simp [*]; done)⟩, ⟨by first | omega | go_size, by first | go_cell | (simp [*]; done), by first | (with_reducible assumption) | (go_simp; done) | (simp [*]; done)⟩, ⟨by first | omega | go_size, by first | go_cell | (simp [*]; done), by first | (with_reducible assumption) | (go_simp; done) | (simp [*]; done)⟩, ⟨by first | omega | go_size, by first | go_cell | (simp [*]; done), by first | (with_reducible assumption) | (go_simp; done) | (simp [*]; done)⟩, trivial⟩ ?_
                repeat (first | go_big_quiet_step ((intro hq; first | rfl | (go_at_call 12; exact Lib.Held.call hq (runs_is K O G s2 _ HRun.out ad0 cap _ (HR.out.below hq.1))) | (have hq' := hq; obtain ⟨hbq, heq, ⟨hkq_0, hlq_0, hzq_0⟩, ⟨hkq_1, hlq_1, hzq_1⟩, ⟨hkq_2, hlq_2, hzq_2⟩, ⟨hkq_3, hlq_3, hzq_3⟩, ⟨hkq_4, hlq_4, hzq_4⟩, ⟨hkq_5, hlq_5, hzq_5⟩, ⟨hkq_6, hlq_6, hzq_6⟩, ⟨hkq_7, hlq_7, hzq_7⟩, ⟨hkq_8, hlq_8, hzq_8⟩, ⟨hkq_9, hlq_9, hzq_9⟩, ⟨hkq_10, hlq_10, hzq_10⟩, ⟨hkq_11, hlq_11, hzq_11⟩, _⟩ := hq'; go_simp; rfl))) | quiet_step ((intro hq; first | rfl | (go_at_call 12; exact Lib.Held.call hq (runs_is K O G s2 _ HRun.out ad0 cap _ (HR.out.below hq.1))) | (have hq' := hq; obtain ⟨hbq, heq, ⟨hkq_0, hlq_0, hzq_0⟩, ⟨hkq_1, hlq_1, hzq_1⟩, ⟨hkq_2, hlq_2, hzq_2⟩, ⟨hkq_3, hlq_3, hzq_3⟩, ⟨hkq_4, hlq_4, hzq_4⟩, ⟨hkq_5, hlq_5, hzq_5⟩, ⟨hkq_6, hlq_6, hzq_6⟩, ⟨hkq_7, hlq_7, hzq_7⟩, ⟨hkq_8, hlq_8, hzq_8⟩, ⟨hkq_9, hlq_9, hzq_9⟩, ⟨hkq_10, hlq_10, hzq_10⟩, ⟨hkq_11, hlq_11, hzq_11⟩, _⟩ := hq'; go_simp; rfl))))
                refine wpQuiet_nil ?_
                intro W8 hq8
                obtain ⟨hb8, he8, ⟨hk8_0, hl8_0, hz8_0⟩, ⟨hk8_1, hl8_1, hz8_1⟩, ⟨hk8_2, hl8_2, hz8_2⟩, ⟨hk8_3, hl8_3, hz8_3⟩, ⟨hk8_4, hl8_4, hz8_4⟩, ⟨hk8_5, hl8_5, hz8_5⟩, ⟨hk8_6, hl8_6, hz8_6⟩, ⟨hk8_7, hl8_7, hz8_7⟩, ⟨hk8_8, hl8_8, hz8_8⟩, ⟨hk8_9, hl8_9, hz8_9⟩, ⟨hk8_10, hl8_10, hz8_10⟩, ⟨hk8_11, hl8_11, hz8_11⟩, _⟩ := hq8
                have hs8 := he8.size
                try simp only [World.size_alloc, World.size_setCell, World.size_drew] at hs8
                go_wp2_with fail
                go_roundw
                case rel => exact ⟨j + 1, G, s2, by omega, by go_num, HV2.out, by go_grown, by go_size, ⟨⟨by go_cell, by go_cell, by go_cell, by go_cell⟩, by first | (with_reducible assumption) | (go_simp; done) | (simp [*]; done), by first | (with_reducible assumption) | (go_simp; done) | (simp [*]; done), by first | (with_reducible assumption) | (go_simp; done) | (simp [*]; done), by first | (with_reducible assumption) | (go_simp; done) | (simp [*]; done)⟩⟩
                case measure => simp [intOf]; omega
            · as_aux_lemma =>
                rw [b8] at g8 k8; rw [b4] at g4; rw [b2] at g2; rw [b1] at k1
                clear hok2 b1 b2 b8 b4
                go_wp2_with fail
                refine (write_to K O G s1 wd s2 HV1.out HZ.out HS2.out ad0 cap _ (HR.out.below (by go_grown))).mono ?_
                rintro eE W5 ⟨rfl, hg5⟩
                have hb5 : Below w.heap.size w W5 := (show Below w.heap.size w _ by go_grown).trans (hg5.mono (by first | omega | go_size))
                obtain ⟨hc5, hf5⟩ := bcell hg5
                have hs5 := hg5.size
                try simp only [World.size_alloc, World.size_setCell, World.size_drew] at hs5
                have hl5_0_0 : W5.cell? ⟨W3.heap.size, 0, none⟩ = some (num K) := (hc5 _ _ (by first | omega | go_size)).trans (by first | (with_reducible assumption) | go_cell)
                have hz5_0_0 : W5.frozen? ⟨W3.heap.size, 0, none⟩ = false := (hf5 _ _ (by first | omega | go_size)).trans (by first | (with_reducible assumption) | (go_simp; done) | (simp [*]; done))
                have hl5_0_1 : W5.cell? ⟨W3.heap.size, 1, none⟩ = some (st O) := (hc5 _ _ (by first | omega | go_size)).trans (by first | (with_reducible assumption) | go_cell)
                have hz5_0_1 : W5.frozen? ⟨W3.heap.size, 1, none⟩ = false := (hf5 _ _ (by first | omega | go_size)).trans (by first | (with_reducible assumption) | (go_simp; done) | (simp [*]; done))
                have hl5_0_2 : W5.cell? ⟨W3.heap.size, 2, none⟩ = some (st G) := (hc5 _ _ (by first | omega | go_size)).trans (by first | (with_reducible assumption) | go_cell)
                have hz5_0_2 : W5.frozen? ⟨W3.heap.size, 2, none⟩ = false := (hf5 _ _ (by first | omega | go_size)).trans (by first | (with_reducible assumption) | (go_simp; done) | (simp [*]; done))
                have hl5_0_3 : W5.cell? ⟨W3.heap.size, 3, none⟩ = some (by8 s1) := (hc5 _ _ (by first | omega | go_size)).trans (by first | (with_reducible assumption) | go_cell)
                have hz5_0_3 : W5.frozen? ⟨W3.heap.size, 3, none⟩ = false := (hf5 _ _ (by first | omega | go_size)).trans (by first | (with_reducible assumption) | (go_simp; done) | (simp [*]; done))
                have hk5_0 : W3.heap.size < W5.heap.size := by omega
                have hl5_1_0 : W5.cell? ⟨wr.heap.size, 0, none⟩ = some (num kd) := (hc5 _ _ (by first | omega | go_size)).trans (by first | (with_reducible assumption) | go_cell)
                have hz5_1_0 : W5.frozen? ⟨wr.heap.size, 0, none⟩ = false := (hf5 _ _ (by first | omega | go_size)).trans (by first | (with_reducible assumption) | (go_simp; done) | (simp [*]; done))
                have hl5_1_1 : W5.cell? ⟨wr.heap.size, 1, none⟩ = some (by8 wd) := (hc5 _ _ (by first | omega | go_size)).trans (by first | (with_reducible assumption) | go_cell)
                have hz5_1_1 : W5.frozen? ⟨wr.heap.size, 1, none⟩ = false := (hf5 _ _ (by first | omega | go_size)).trans (by first | (with_reducible assumption) | (go_simp; done) | (simp [*]; done))
                have hl5_1_2 : W5.cell? ⟨wr.heap.size, 2, none⟩ = some (st S) := (hc5 _ _ (by first | omega | go_size)).trans (by first | (with_reducible assumption) | go_cell)
                have hz5_1_2 : W5.frozen? ⟨wr.heap.size, 2, none⟩ = false := (hf5 _ _ (by first | omega | go_size)).trans (by first | (with_reducible assumption) | (go_simp; done) | (simp [*]; done))
                have hl5_1_3 : W5.cell? ⟨wr.heap.size, 3, none⟩ = some (.bool nd) := (hc5 _ _ (by first | omega | go_size)).trans (by first | (with_reducible assumption) | go_cell)
                have hz5_1_3 : W5.frozen? ⟨wr.heap.size, 3, none⟩ = false := (hf5 _ _ (by first | omega | go_size)).trans (by first | (with_reducible assumption) | (go_simp; done) | (simp [*]; done))
                have hk5_1 : wr.heap.size < W5.heap.size := by omega
                have hl5_2_0 : W5.cell? ⟨wr.heap.size + 1, 0, none⟩ = some (num K) := (hc5 _ _ (by first | omega | go_size)).trans (by first | (with_reducible assumption) | go_cell)
                have hz5_2_0 : W5.frozen? ⟨wr.heap.size + 1, 0, none⟩ = false := (hf5 _ _ (by first | omega | go_size)).trans (by first | (with_reducible assumption) | (go_simp; done) | (simp [*]; done))
                have hl5_2_1 : W5.cell? ⟨wr.heap.size + 1, 1, none⟩ = some (st O) := (hc5 _ _ (by first | omega | go_size)).trans (by first | (with_reducible assumption) | go_cell)
                have hz5_2_1 : W5.frozen? ⟨wr.heap.size + 1, 1, none⟩ = false := (hf5 _ _ (by first | omega | go_size)).trans (by first | (with_reducible assumption) | (go_simp; done) | (simp [*]; done))
                have hl5_2_2 : W5.cell? ⟨wr.heap.size + 1, 2, none⟩ = some (st G) := (hc5 _ _ (by first | omega | go_size)).trans (by first | (with_reducible assumption) | go_cell)
                have hz5_2_2 : W5.frozen? ⟨wr.heap.size + 1, 2, none⟩ = false := (hf5 _ _ (by first | omega | go_size)).trans (by first | (with_reducible assumption) | (go_simp; done) | (simp [*]; done))
                have hl5_2_3 : W5.cell? ⟨wr.heap.size + 1, 3, none⟩ = some (by8 s1) := (hc5 _ _ (by first | omega | go_size)).trans (by first | (with_reducible assumption) | go_cell)
                have hz5_2_3 : W5.frozen? ⟨wr.heap.size + 1, 3, none⟩ = false := (hf5 _ _ (by first | omega | go_size)).trans (by first | (with_reducible assumption) | (go_simp; done) | (simp [*]; done))
                have hk5_2 : wr.heap.size + 1 < W5.heap.size := by omega
                clear hg5 hc5 hf5
                go_wp2_with fail
                refine (check_is K O G s2 0 HC.out ad0 cap _ (HR.out.below (by go_grown))).mono ?_
                rintro eE W6 ⟨rfl, hg6⟩
                have hb6 : Below w.heap.size w W6 := (show Below w.heap.size w _ by go_grown).trans (hg6.mono (by first | omega | go_size))
                obtain ⟨hc6, hf6⟩ := bcell hg6
                have hs6 := hg6.size
                try simp only [World.size_alloc, World.size_setCell, World.size_drew] at hs6
                have hl6_0_0 : W6.cell? ⟨W3.heap.size, 0, none⟩ = some (num K) := (hc6 _ _ (by first | omega | go_size)).trans (by first | (with_reducible assumption) | go_cell)
                have hz6_0_0 : W6.frozen? ⟨W3.heap.size, 0, none⟩ = false := (hf6 _ _ (by first | omega | go_size)).trans (by first | (with_reducible assumption) | (go_simp; done) | (simp [*]; done))
                have hl6_0_1 : W6.cell? ⟨W3.heap.size, 1, none⟩ = some (st O) := (hc6 _ _ (by first | omega | go_size)).trans (by first | (with_reducible assumption) | go_cell)
                have hz6_0_1 : W6.frozen? ⟨W3.heap.size, 1, none⟩ = false := (hf6 _ _ (by first | omega | go_size)).trans (by first | (with_reducible assumption) | (go_simp; done) | (simp [*]; done))
                have hl6_0_2 : W6.cell? ⟨W3.heap.size, 2, none⟩ = some (st G) := (hc6 _ _ (by first | omega | go_size)).trans (by first | (with_reducible assumption) | go_cell)
                have hz6_0_2 : W6.frozen? ⟨W3.heap.size, 2, none⟩ = false := (hf6 _ _ (by first | omega | go_size)).trans (by first | (with_reducible assumption) | (go_simp; done) | (simp [*]; done))
                have hl6_0_3 : W6.cell? ⟨W3.heap.size, 3, none⟩ = some (by8 s2) := (hc6 _ _ (by first | omega | go_size)).trans (by first | (with_reducible assumption) | go_cell)
                have hz6_0_3 : W6.frozen? ⟨W3.heap.size, 3, none⟩ = false := (hf6 _ _ (by first | omega | go_size)).trans (by first | (with_reducible assumption) | (go_simp; done) | (simp [*]; done))
                have hk6_0 : W3.heap.size < W6.heap.size := by omega
                have hl6_1_0 : W6.cell? ⟨wr.heap.size, 0, none⟩ = some (num kd) := (hc6 _ _ (by first | omega | go_size)).trans (by first | (with_reducible assumption) | go_cell)
                have hz6_1_0 : W6.frozen? ⟨wr.heap.size, 0, none⟩ = false := (hf6 _ _ (by first | omega | go_size)).trans (by first | (with_reducible assumption) | (go_simp; done) | (simp [*]; done))
                have hl6_1_1 : W6.cell? ⟨wr.heap.size, 1, none⟩ = some (by8 wd) := (hc6 _ _ (by first | omega | go_size)).trans (by first | (with_reducible assumption) | go_cell)
                have hz6_1_1 : W6.frozen? ⟨wr.heap.size, 1, none⟩ = false := (hf6 _ _ (by first | omega | go_size)).trans (by first | (with_reducible assumption) | (go_simp; done) | (simp [*]; done))
                have hl6_1_2 : W6.cell? ⟨wr.heap.size, 2, none⟩ = some (st S) := (hc6 _ _ (by first | omega | go_size)).trans (by first | (with_reducible assumption) | go_cell)
                have hz6_1_2 : W6.frozen? ⟨wr.heap.size, 2, none⟩ = false := (hf6 _ _ (by first | omega | go_size)).trans (by first | (with_reducible assumption) | (go_simp; done) | (simp [*]; done))
                have hl6_1_3 : W6.cell? ⟨wr.heap.size, 3, none⟩ = some (.bool nd) := (hc6 _ _ (by first | omega | go_size)).trans (by first | (with_reducible assumption) | go_cell)
                have hz6_1_3 : W6.frozen? ⟨wr.heap.size, 3, none⟩ = false := (hf6 _ _ (by first | omega | go_size)).trans (by first | (with_reducible assumption) | (go_simp; done) | (simp [*]; done))
                have hk6_1 : wr.heap.size < W6.heap.size := by omega
                have hl6_2_0 : W6.cell? ⟨wr.heap.size + 1, 0, none⟩ = some (num K) := (hc6 _ _ (by first | omega | go_size)).trans (by first | (with_reducible assumption) | go_cell)
                have hz6_2_0 : W6.frozen? ⟨wr.heap.size + 1, 0, none⟩ = false := (hf6 _ _ (by first | omega | go_size)).trans (by first | (with_reducible assumption) | (go_simp; done) | (simp [*]; done))
                have hl6_2_1 : W6.cell? ⟨wr.heap.size + 1, 1, none⟩ = some (st O) := (hc6 _ _ (by first | omega | go_size)).trans (by first | (with_reducible assumption) | go_cell)
                have hz6_2_1 : W6.frozen? ⟨wr.heap.size + 1, 1, none⟩ = false := (hf6 _ _ (by first | omega | go_size)).trans (by first | (with_reducible assumption) | (go_simp; done) | (simp [*]; done))
                have hl6_2_2 : W6.cell? ⟨wr.heap.size + 1, 2, none⟩ = some (st G) := (hc6 _ _ (by first | omega | go_size)).trans (by first | (with_reducible assumption) | go_cell)
                have hz6_2_2 : W6.frozen? ⟨wr.heap.size + 1, 2, none⟩ = false := (hf6 _ _ (by first | omega | go_size)).trans (by first | (with_reducible assumption) | (go_simp; done) | (simp [*]; done))
                have hl6_2_3 : W6.cell? ⟨wr.heap.size + 1, 3, none⟩ = some (by8 s1) := (hc6 _ _ (by first | omega | go_size)).trans (by first | (with_reducible assumption) | go_cell)
                have hz6_2_3 : W6.frozen? ⟨wr.heap.size + 1, 3, none⟩ = false := (hf6 _ _ (by first | omega | go_size)).trans (by first | (with_reducible assumption) | (go_simp; done) | (simp [*]; done))
                have hk6_2 : wr.heap.size + 1 < W6.heap.size := by omega
                clear hg6 hc6 hf6
                go_wp2_with fail
                refine Lib.wp_region_class (Lib.Held w _ [(W3.heap.size, 0, (num K : Value)), (W3.heap.size, 1, (st O : Value)), (W3.heap.size, 2, (st G : Value)), (W3.heap.size, 3, (by8 s2 : Value)), (wr.heap.size, 0, (num kd : Value)), (wr.heap.size, 1, (by8 wd : Value)), (wr.heap.size, 2, (st S : Value)), (wr.heap.size, 3, (.bool nd : Value)), (wr.heap.size + 1, 0, (num K : Value)), (wr.heap.size + 1, 1, (st O : Value)), (wr.heap.size + 1, 2, (st G : Value)), (wr.heap.size + 1, 3, (by8 s1 : Value))]) (by kernel_rfl) (by kernel_rfl) ⟨by go_grown, Below.refl _ _, ⟨by first | omega | go_size, by first | go_cell | (simp [*]; done), by first | (with_reducible assumption) | (go_simp; done) | (simp [*]; done)⟩, ⟨by first | omega | go_size, by first | go_cell | (simp [*]; done), by first | (with_reducible assumption) | (go_simp; done) | (simp [*]; done)⟩, ⟨by first | omega | go_size, by first | go_cell | (simp [*]; done), by first | (with_reducible assumption) | (go_simp; done) | (simp [*]; done)⟩, ⟨by first | omega | go_size, by first | go_cell | (simp [*]; done), by first | (with_reducible assumption) | (go_simp; done) | (simp [*]; done)⟩, ⟨by first | omega | go_size, by first | go_cell | (simp [*]; done), by first | (with_reducible assumption) | (go_simp; done) | (simp [*]; done)⟩, ⟨by first | omega | go_size, by first | go_cell | (simp [*]; done), by first | (with_reducible assumption) | (go_simp; done) | (simp [*]; done)⟩, ⟨by first | omega | go_size, by first | go_cell | (simp [*]; done), by first | (with_reducible assumption) | (go_simp; done) | (simp [*]; done)⟩, ⟨by first | omega | go_size, by first | go_cell | (simp [*]; done), by first | (with_reducible assumption) | (go_simp; done) | (simp [*]; done)⟩, ⟨by first | omega | go_size, by first | go_cell | (simp [*]; done), by first | (with_reducible assumption) | (go_simp; done) | (simp [*]; done)⟩, ⟨by first | omega | go_size, by first | go_cell | (simp [*]; done), by first | (with_reducible assumption) | (go_simp; done) | (simp [*]; done)⟩, ⟨by first | omega | go_size, by first | go_cell | (simp [*]; done), by first | (with_reducible assumption) | (go_simp; done) | (simp [*]; done)⟩, ⟨by first | omega | go_size, by first | go_cell | (simp [*]; done), by first | (with_reducible assumption) | (go_simp; done) | (simp [*]; done)⟩, trivial⟩ ?_
                repeat (first | go_big_quiet_step ((intro hq; first | rfl | (go_at_call 12; exact Lib.Held.call hq (runs_is K O G s2 _ HRun.out ad0 cap _ (HR.out.below hq.1))) | (have hq' := hq; obtain ⟨hbq, heq, ⟨hkq_0, hlq_0, hzq_0⟩, ⟨hkq_1, hlq_1, hzq_1⟩, ⟨hkq_2, hlq_2, hzq_2⟩, ⟨hkq_3, hlq_3, hzq_3⟩, ⟨hkq_4, hlq_4, hzq_4⟩, ⟨hkq_5, hlq_5, hzq_5⟩, ⟨hkq_6, hlq_6, hzq_6⟩, ⟨hkq_7, hlq_7, hzq_7⟩, ⟨hkq_8, hlq_8, hzq_8⟩, ⟨hkq_9, hlq_9, hzq_9⟩, ⟨hkq_10, hlq_10, hzq_10⟩, ⟨hkq_11, hlq_11, hzq_11⟩, _⟩ := hq'; go_simp; rfl))) | quiet_step ((intro hq; first | rfl | (go_at_call 12; exact Lib.Held.call hq (runs_is K O G s2 _ HRun.out ad0 cap _ (HR.out.below hq.1))) | (have hq' := hq; obtain ⟨hbq, heq, ⟨hkq_0, hlq_0, hzq_0⟩, ⟨hkq_1, hlq_1, hzq_1⟩, ⟨hkq_2, hlq_2, hzq_2⟩, ⟨hkq_3, hlq_3, hzq_3⟩, ⟨hkq_4, hlq_4, hzq_4⟩, ⟨hkq_5, hlq_5, hzq_5⟩, ⟨hkq_6, hlq_6, hzq_6⟩, ⟨hkq_7, hlq_7, hzq_7⟩, ⟨hkq_8, hlq_8, hzq_8⟩, ⟨hkq_9, hlq_9, hzq_9⟩, ⟨hkq_10, hlq_10, hzq_10⟩, ⟨hkq_11, hlq_11, hzq_11⟩, _⟩ := hq'; go_simp; rfl))))
                refine wpQuiet_nil ?_
                intro W8 hq8
                obtain ⟨hb8, he8, ⟨hk8_0, hl8_0, hz8_0⟩, ⟨hk8_1, hl8_1, hz8_1⟩, ⟨hk8_2, hl8_2, hz8_2⟩, ⟨hk8_3, hl8_3, hz8_3⟩, ⟨hk8_4, hl8_4, hz8_4⟩, ⟨hk8_5, hl8_5, hz8_5⟩, ⟨hk8_6, hl8_6, hz8_6⟩, ⟨hk8_7, hl8_7, hz8_7⟩, ⟨hk8_8, hl8_8, hz8_8⟩, ⟨hk8_9, hl8_9, hz8_9⟩, ⟨hk8_10, hl8_10, hz8_10⟩, ⟨hk8_11, hl8_11, hz8_11⟩, _⟩ := hq8
                have hs8 := he8.size
                try simp only [World.size_alloc, World.size_setCell, World.size_drew] at hs8
                go_wp2_with fail
                go_roundw
                case rel => exact ⟨j + 1, G, s2, by omega, by go_num, HV2.out, by go_grown, by go_size, ⟨⟨by go_cell, by go_cell, by go_cell, by go_cell⟩, by first | (with_reducible assumption) | (go_simp; done) | (simp [*]; done), by first | (with_reducible assumption) | (go_simp; done) | (simp [*]; done), by first | (with_reducible assumption) | (go_simp; done) | (simp [*]; done), by first | (with_reducible assumption) | (go_simp; done) | (simp [*]; done)⟩⟩
                case measure => simp [intOf]; omega
            · as_aux_lemma =>
                rw [b8] at g8 k8; rw [b4] at g4; rw [b2] at g2; rw [b1] at k1
                have HAcc := Lib.hid ba
                clear hok2 ba b1 b2 b8 b4
                go_wp2_with fail
                refine (write_to K O G s1 wd s2 HV1.out HZ.out HS2.out ad0 cap _ (HR.out.below (by go_grown))).mono ?_
                rintro eE W5 ⟨rfl, hg5⟩
                have hb5 : Below w.heap.size w W5 := (show Below w.heap.size w _ by go_grown).trans (hg5.mono (by first | omega | go_size))
                obtain ⟨hc5, hf5⟩ := bcell hg5
                have hs5 := hg5.size
                try simp only [World.size_alloc, World.size_setCell, World.size_drew] at hs5
                have hl5_0_0 : W5.cell? ⟨W3.heap.size, 0, none⟩ = some (num K) := (hc5 _ _ (by first | omega | go_size)).trans (by first | (with_reducible assumption) | go_cell)
                have hz5_0_0 : W5.frozen? ⟨W3.heap.size, 0, none⟩ = false := (hf5 _ _ (by first | omega | go_size)).trans (by first | (with_reducible assumption) | (go_simp; done) | (simp [*]; done))
                have hl5_0_1 : W5.cell? ⟨W3.heap.size, 1, none⟩ = some (st O) := (hc5 _ _ (by first | omega | go_size)).trans (by first | (with_reducible assumption) | go_cell)
                have hz5_0_1 : W5.frozen? ⟨W3.heap.size, 1, none⟩ = false := (hf5 _ _ (by first | omega | go_size)).trans (by first | (with_reducible assumption) | (go_simp; done) | (simp [*]; done))
                have hl5_0_2 : W5.cell? ⟨W3.heap.size, 2, none⟩ = some (st G) := (hc5 _ _ (by first | omega | go_size)).trans (by first | (with_reducible assumption) | go_cell)
                have hz5_0_2 : W5.frozen? ⟨W3.heap.size, 2, none⟩ = false := (hf5 _ _ (by first | omega | go_size)).trans (by first | (with_reducible assumption) | (go_simp; done) | (simp [*]; done))
                have hl5_0_3 : W5.cell? ⟨W3.heap.size, 3, none⟩ = some (by8 s1) := (hc5 _ _ (by first | omega | go_size)).trans (by first | (with_reducible assumption) | go_cell)
                have hz5_0_3 : W5.frozen? ⟨W3.heap.size, 3, none⟩ = false := (hf5 _ _ (by first | omega | go_size)).trans (by first | (with_reducible assumption) | (go_simp; done) | (simp [*]; done))
                have hk5_0 : W3.heap.size < W5.heap.size := by omega
                have hl5_1_0 : W5.cell? ⟨wr.heap.size, 0, none⟩ = some (num kd) := (hc5 _ _ (by first | omega | go_size)).trans (by first | (with_reducible assumption) | go_cell)
                have hz5_1_0 : W5.frozen? ⟨wr.heap.size, 0, none⟩ = false := (hf5 _ _ (by first | omega | go_size)).trans (by first | (with_reducible assumption) | (go_simp; done) | (simp [*]; done))
                have hl5_1_1 : W5.cell? ⟨wr.heap.size, 1, none⟩ = some (by8 wd) := (hc5 _ _ (by first | omega | go_size)).trans (by first | (with_reducible assumption) | go_cell)
                have hz5_1_1 : W5.frozen? ⟨wr.heap.size, 1, none⟩ = false := (hf5 _ _ (by first | omega | go_size)).trans (by first | (with_reducible assumption) | (go_simp; done) | (simp [*]; done))
                have hl5_1_2 : W5.cell? ⟨wr.heap.size, 2, none⟩ = some (st S) := (hc5 _ _ (by first | omega | go_size)).trans (by first | (with_reducible assumption) | go_cell)
                have hz5_1_2 : W5.frozen? ⟨wr.heap.size, 2, none⟩ = false := (hf5 _ _ (by first | omega | go_size)).trans (by first | (with_reducible assumption) | (go_simp; done) | (simp [*]; done))
                have hl5_1_3 : W5.cell? ⟨wr.heap.size, 3, none⟩ = some (.bool nd) := (hc5 _ _ (by first | omega | go_size)).trans (by first | (with_reducible assumption) | go_cell)
                have hz5_1_3 : W5.frozen? ⟨wr.heap.size, 3, none⟩ = false := (hf5 _ _ (by first | omega | go_size)).trans (by first | (with_reducible assumption) | (go_simp; done) | (simp [*]; done))
                have hk5_1 : wr.heap.size < W5.heap.size := by omega
                have hl5_2_0 : W5.cell? ⟨wr.heap.size + 1, 0, none⟩ = some (num K) := (hc5 _ _ (by first | omega | go_size)).trans (by first | (with_reducible assumption) | go_cell)
                have hz5_2_0 : W5.frozen? ⟨wr.heap.size + 1, 0, none⟩ = false := (hf5 _ _ (by first | omega | go_size)).trans (by first | (with_reducible assumption) | (go_simp; done) | (simp [*]; done))
                have hl5_2_1 : W5.cell? ⟨wr.heap.size + 1, 1, none⟩ = some (st O) := (hc5 _ _ (by first | omega | go_size)).trans (by first | (with_reducible assumption) | go_cell)
                have hz5_2_1 : W5.frozen? ⟨wr.heap.size + 1, 1, none⟩ = false := (hf5 _ _ (by first | omega | go_size)).trans (by first | (with_reducible assumption) | (go_simp; done) | (simp [*]; done))
                have hl5_2_2 : W5.cell? ⟨wr.heap.size + 1, 2, none⟩ = some (st G) := (hc5 _ _ (by first | omega | go_size)).trans (by first | (with_reducible assumption) | go_cell)
                have hz5_2_2 : W5.frozen? ⟨wr.heap.size + 1, 2, none⟩ = false := (hf5 _ _ (by first | omega | go_size)).trans (by first | (with_reducible assumption) | (go_simp; done) | (simp [*]; done))
                have hl5_2_3 : W5.cell? ⟨wr.heap.size + 1, 3, none⟩ = some (by8 s1) := (hc5 _ _ (by first | omega | go_size)).trans (by first | (with_reducible assumption) | go_cell)
                have hz5_2_3 : W5.frozen? ⟨wr.heap.size + 1, 3, none⟩ = false := (hf5 _ _ (by first | omega | go_size)).trans (by first | (with_reducible assumption) | (go_simp; done) | (simp [*]; done))
                have hk5_2 : wr.heap.size + 1 < W5.heap.size := by omega
                clear hg5 hc5 hf5
                go_wp2_with fail
                refine (check_is K O G s2 0 HC.out ad0 cap _ (HR.out.below (by go_grown))).mono ?_
                rintro eE W6 ⟨rfl, hg6⟩
                have hb6 : Below w.heap.size w W6 := (show Below w.heap.size w _ by go_grown).trans (hg6.mono (by first | omega | go_size))
                obtain ⟨hc6, hf6⟩ := bcell hg6
                have hs6 := hg6.size
                try simp only [World.size_alloc, World.size_setCell, World.size_drew] at hs6
                have hl6_0_0 : W6.cell? ⟨W3.heap.size, 0, none⟩ = some (num K) := (hc6 _ _ (by first | omega | go_size)).trans (by first | (with_reducible assumption) | go_cell)
                have hz6_0_0 : W6.frozen? ⟨W3.heap.size, 0, none⟩ = false := (hf6 _ _ (by first | omega | go_size)).trans (by first | (with_reducible assumption) | (go_simp; done) | (simp [*]; done))
                have hl6_0_1 : W6.cell? ⟨W3.heap.size, 1, none⟩ = some (st O) := (hc6 _ _ (by first | omega | go_size)).trans (by first | (with_reducible assumption) | go_cell)
                have hz6_0_1 : W6.frozen? ⟨W3.heap.size, 1, none⟩ = false := (hf6 _ _ (by first | omega | go_size)).trans (by first | (with_reducible assumption) | (go_simp; done) | (simp [*]; done))
                have hl6_0_2 : W6.cell? ⟨W3.heap.size, 2, none⟩ = some (st G) := (hc6 _ _ (by first | omega | go_size)).trans (by first | (with_reducible assumption) | go_cell)
                have hz6_0_2 : W6.frozen? ⟨W3.heap.size, 2, none⟩ = false := (hf6 _ _ (by first | omega | go_size)).trans (by first | (with_reducible assumption) | (go_simp; done) | (simp [*]; done))
                have hl6_0_3 : W6.cell? ⟨W3.heap.size, 3, none⟩ = some (by8 s2) := (hc6 _ _ (by first | omega | go_size)).trans (by first | (with_reducible assumption) | go_cell)
                have hz6_0_3 : W6.frozen? ⟨W3.heap.size, 3, none⟩ = false := (hf6 _ _ (by first | omega | go_size)).trans (by first | (with_reducible assumption) | (go_simp; done) | (simp [*]; done))
                have hk6_0 : W3.heap.size < W6.heap.size := by omega
                have hl6_1_0 : W6.cell? ⟨wr.heap.size, 0, none⟩ = some (num kd) := (hc6 _ _ (by first | omega | go_size)).trans (by first | (with_reducible assumption) | go_cell)
                have hz6_1_0 : W6.frozen? ⟨wr.heap.size, 0, none⟩ = false := (hf6 _ _ (by first | omega | go_size)).trans (by first | (with_reducible assumption) | (go_simp; done) | (simp [*]; done))
                have hl6_1_1 : W6.cell? ⟨wr.heap.size, 1, none⟩ = some (by8 wd) := (hc6 _ _ (by first | omega | go_size)).trans (by first | (with_reducible assumption) | go_cell)
                have hz6_1_1 : W6.frozen? ⟨wr.heap.size, 1, none⟩ = false := (hf6 _ _ (by first | omega | go_size)).trans (by first | (with_reducible assumption) | (go_simp; done) | (simp [*]; done))
                have hl6_1_2 : W6.cell? ⟨wr.heap.size, 2, none⟩ = some (st S) := (hc6 _ _ (by first | omega | go_size)).trans (by first | (with_reducible assumption) | go_cell)
                have hz6_1_2 : W6.frozen? ⟨wr.heap.size, 2, none⟩ = false := (hf6 _ _ (by first | omega | go_size)).trans (by first | (with_reducible assumption) | (go_simp; done) | (simp [*]; done))
                have hl6_1_3 : W6.cell? ⟨wr.heap.size, 3, none⟩ = some (.bool nd) := (hc6 _ _ (by first | omega | go_size)).trans (by first | (with_reducible assumption) | go_cell)
                have hz6_1_3 : W6.frozen? ⟨wr.heap.size, 3, none⟩ = false := (hf6 _ _ (by first | omega | go_size)).trans (by first | (with_reducible assumption) | (go_simp; done) | (simp [*]; done))
                have hk6_1 : wr.heap.size < W6.heap.size := by omega
                have hl6_2_0 : W6.cell? ⟨wr.heap.size + 1, 0, none⟩ = some (num K) := (hc6 _ _ (by first | omega | go_size)).trans (by first | (with_reducible assumption) | go_cell)
                have hz6_2_0 : W6.frozen? ⟨wr.heap.size + 1, 0, none⟩ = false := (hf6 _ _ (by first | omega | go_size)).trans (by first | (with_reducible assumption) | (go_simp; done) | (simp [*]; done))
                have hl6_2_1 : W6.cell? ⟨wr.heap.size + 1, 1, none⟩ = some (st O) := (hc6 _ _ (by first | omega | go_size)).trans (by first | (with_reducible assumption) | go_cell)
                have hz6_2_1 : W6.frozen? ⟨wr.heap.size + 1, 1, none⟩ = false := (hf6 _ _ (by first | omega | go_size)).trans (by first | (with_reducible assumption) | (go_simp; done) | (simp [*]; done))
                have hl6_2_2 : W6.cell? ⟨wr.heap.size + 1, 2, none⟩ = some (st G) := (hc6 _ _ (by first | omega | go_size)).trans (by first | (with_reducible assumption) | go_cell)
                have hz6_2_2 : W6.frozen? ⟨wr.heap.size + 1, 2, none⟩ = false := (hf6 _ _ (by first | omega | go_size)).trans (by first | (with_reducible assumption) | (go_simp; done) | (simp [*]; done))
                have hl6_2_3 : W6.cell? ⟨wr.heap.size + 1, 3, none⟩ = some (by8 s1) := (hc6 _ _ (by first | omega | go_size)).trans (by first | (with_reducible assumption) | go_cell)
                have hz6_2_3 : W6.frozen? ⟨wr.heap.size + 1, 3, none⟩ = false := (hf6 _ _ (by first | omega | go_size)).trans (by first | (with_reducible assumption) | (go_simp; done) | (simp [*]; done))
                have hk6_2 : wr.heap.size + 1 < W6.heap.size := by omega
                clear hg6 hc6 hf6
                go_wp2_with fail
                refine (StR.accept_is K O G true HAcc.out _).mono ?_
                rintro eE W7 ⟨rfl, hg7⟩
                have hb7 : Below w.heap.size w W7 := (show Below w.heap.size w _ by go_grown).trans (hg7.mono (by first | omega | go_size))
                obtain ⟨hc7, hf7⟩ := bcell hg7
                have hs7 := hg7.size
                try simp only [World.size_alloc, World.size_setCell, World.size_drew] at hs7
                have hl7_0_0 : W7.cell? ⟨W3.heap.size, 0, none⟩ = some (num K) := (hc7 _ _ (by first | omega | go_size)).trans (by first | (with_reducible assumption) | go_cell)
                have hz7_0_0 : W7.frozen? ⟨W3.heap.size, 0, none⟩ = false := (hf7 _ _ (by first | omega | go_size)).trans (by first | (with_reducible assumption) | (go_simp; done) | (simp [*]; done))
                have hl7_0_1 : W7.cell? ⟨W3.heap.size, 1, none⟩ = some (st O) := (hc7 _ _ (by first | omega | go_size)).trans (by first | (with_reducible assumption) | go_cell)
                have hz7_0_1 : W7.frozen? ⟨W3.heap.size, 1, none⟩ = false := (hf7 _ _ (by first | omega | go_size)).trans (by first | (with_reducible assumption) | (go_simp; done) | (simp [*]; done))
                have hl7_0_2 : W7.cell? ⟨W3.heap.size, 2, none⟩ = some (st G) := (hc7 _ _ (by first | omega | go_size)).trans (by first | (with_reducible assumption) | go_cell)
                have hz7_0_2 : W7.frozen? ⟨W3.heap.size, 2, none⟩ = false := (hf7 _ _ (by first | omega | go_size)).trans (by first | (with_reducible assumption) | (go_simp; done) | (simp [*]; done))
                have hl7_0_3 : W7.cell? ⟨W3.heap.size, 3, none⟩ = some (by8 s2) := (hc7 _ _ (by first | omega | go_size)).trans (by first | (with_reducible assumption) | go_cell)
                have hz7_0_3 : W7.frozen? ⟨W3.heap.size, 3, none⟩ = false := (hf7 _ _ (by first | omega | go_size)).trans (by first | (with_reducible assumption) | (go_simp; done) | (simp [*]; done))
                have hk7_0 : W3.heap.size < W7.heap.size := by omega
                have hl7_1_0 : W7.cell? ⟨wr.heap.size, 0, none⟩ = some (num kd) := (hc7 _ _ (by first | omega | go_size)).trans (by first | (with_reducible assumption) | go_cell)
                have hz7_1_0 : W7.frozen? ⟨wr.heap.size, 0, none⟩ = false := (hf7 _ _ (by first | omega | go_size)).trans (by first | (with_reducible assumption) | (go_simp; done) | (simp [*]; done))
                have hl7_1_1 : W7.cell? ⟨wr.heap.size, 1, none⟩ = some (by8 wd) := (hc7 _ _ (by first | omega | go_size)).trans (by first | (with_reducible assumption) | go_cell)
                have hz7_1_1 : W7.frozen? ⟨wr.heap.size, 1, none⟩ = false := (hf7 _ _ (by first | omega | go_size)).trans (by first | (with_reducible assumption) | (go_simp; done) | (simp [*]; done))
                have hl7_1_2 : W7.cell? ⟨wr.heap.size, 2, none⟩ = some (st S) := (hc7 _ _ (by first | omega | go_size)).trans (by first | (with_reducible assumption) | go_cell)
                have hz7_1_2 : W7.frozen? ⟨wr.heap.size, 2, none⟩ = false := (hf7 _ _ (by first | omega | go_size)).trans (by first | (with_reducible assumption) | (go_simp; done) | (simp [*]; done))
                have hl7_1_3 : W7.cell? ⟨wr.heap.size, 3, none⟩ = some (.bool nd) := (hc7 _ _ (by first | omega | go_size)).trans (by first | (with_reducible assumption) | go_cell)
                have hz7_1_3 : W7.frozen? ⟨wr.heap.size, 3, none⟩ = false := (hf7 _ _ (by first | omega | go_size)).trans (by first | (with_reducible assumption) | (go_simp; done) | (simp [*]; done))
                have hk7_1 : wr.heap.size < W7.heap.size := by omega
                have hl7_2_0 : W7.cell? ⟨wr.heap.size + 1, 0, none⟩ = some (num K) := (hc7 _ _ (by first | omega | go_size)).trans (by first | (with_reducible assumption) | go_cell)
                have hz7_2_0 : W7.frozen? ⟨wr.heap.size + 1, 0, none⟩ = false := (hf7 _ _ (by first | omega | go_size)).trans (by first | (with_reducible assumption) | (go_simp; done) | (simp [*]; done))
                have hl7_2_1 : W7.cell? ⟨wr.heap.size + 1, 1, none⟩ = some (st O) := (hc7 _ _ (by first | omega | go_size)).trans (by first | (with_reducible assumption) | go_cell)
                have hz7_2_1 : W7.frozen? ⟨wr.heap.size + 1, 1, none⟩ = false := (hf7 _ _ (by first | omega | go_size)).trans (by first | (with_reducible assumption) | (go_simp; done) | (simp [*]; done))
                have hl7_2_2 : W7.cell? ⟨wr.heap.size + 1, 2, none⟩ = some (st G) := (hc7 _ _ (by first | omega | go_size)).trans (by first | (with_reducible assumption) | go_cell)
                have hz7_2_2 : W7.frozen? ⟨wr.heap.size + 1, 2, none⟩ = false := (hf7 _ _ (by first | omega | go_size)).trans (by first | (with_reducible assumption) | (go_simp; done) | (simp [*]; done))
                have hl7_2_3 : W7.cell? ⟨wr.heap.size + 1, 3, none⟩ = some (by8 s1) := (hc7 _ _ (by first | omega | go_size)).trans (by first | (with_reducible assumption) | go_cell)
                have hz7_2_3 : W7.frozen? ⟨wr.heap.size + 1, 3, none⟩ = false := (hf7 _ _ (by first | omega | go_size)).trans (by first | (with_reducible assumption) | (go_simp; done) | (simp [*]; done))
                have hk7_2 : wr.heap.size + 1 < W7.heap.size := by omega
                clear hg7 hc7 hf7
                go_wp2_with fail
                refine Lib.wp_region_class (Lib.Held w _ [(W3.heap.size, 0, (num K : Value)), (W3.heap.size, 1, (st O : Value)), (W3.heap.size, 2, (st G : Value)), (W3.heap.size, 3, (by8 s2 : Value)), (wr.heap.size, 0, (num kd : Value)), (wr.heap.size, 1, (by8 wd : Value)), (wr.heap.size, 2, (st S : Value)), (wr.heap.size, 3, (.bool nd : Value)), (wr.heap.size + 1, 0, (num K : Value)), (wr.heap.size + 1, 1, (st O : Value)), (wr.heap.size + 1, 2, (st G : Value)), (wr.heap.size + 1, 3, (by8 s1 : Value))]) (by kernel_rfl) (by kernel_rfl) ⟨by go_grown, Below.refl _ _, ⟨by first | omega | go_size, by first | go_cell | (simp [*]; done), by first | (with_reducible assumption) | (go_simp; done) | (simp [*]; done)⟩, ⟨by first | omega | go_size, by first | go_cell | (simp [*]; done), by first | (with_reducible assumption) | (go_simp; done) | (simp [*]; done)⟩, ⟨by first | omega | go_size, by first | go_cell | (simp [*]; done), by first | (with_reducible assumption) | (go_simp; done) | (simp [*]; done)⟩, ⟨by first | omega | go_size, by first | go_cell | (simp [*]; done), by first | (with_reducible assumption) | (go_simp; done) | (simp [*]; done)⟩, ⟨by first | omega | go_size, by first | go_cell | (simp [*]; done), by first | (with_reducible assumption) | (go_simp; done) | (simp [*]; done)⟩, ⟨by first | omega | go_size, by first | go_cell | (simp [*]; done), by first | (with_reducible assumption) | (go_simp; done) | (simp [*]; done)⟩, ⟨by first | omega | go_size, by first | go_cell | (simp [*]; done), by first | (with_reducible assumption) | (go_simp; done) | (simp [*]; done)⟩, ⟨by first | omega | go_size, by first | go_cell | (simp [*]; done), by first | (with_reducible assumption) | (go_simp; done) | (simp [*]; done)⟩, ⟨by first | omega | go_size, by first | go_cell | (simp [*]; done), by first | (with_reducible assumption) | (go_simp; done) | (simp [*]; done)⟩, ⟨by first | omega | go_size, by first | go_cell | (simp [*]; done), by first | (with_reducible assumption) | (go_simp; done) | (simp [*]; done)⟩, ⟨by first | omega | go_size, by first | go_cell | (simp [*]; done), by first | (with_reducible assumption) | (go_simp; done) | (simp [*]; done)⟩, ⟨by first | omega | go_size, by first | go_cell | (simp [*]; done), by first | (with_reducible assumption) | (go_simp; done) | (simp [*]; done)⟩, trivial⟩ ?_
                repeat (first | go_big_quiet_step ((intro hq; first | rfl | (go_at_call 12; exact Lib.Held.call hq (runs_is K O G s2 _ HRun.out ad0 cap _ (HR.out.below hq.1))) | (have hq' := hq; obtain ⟨hbq, heq, ⟨hkq_0, hlq_0, hzq_0⟩, ⟨hkq_1, hlq_1, hzq_1⟩, ⟨hkq_2, hlq_2, hzq_2⟩, ⟨hkq_3, hlq_3, hzq_3⟩, ⟨hkq_4, hlq_4, hzq_4⟩, ⟨hkq_5, hlq_5, hzq_5⟩, ⟨hkq_6, hlq_6, hzq_6⟩, ⟨hkq_7, hlq_7, hzq_7⟩, ⟨hkq_8, hlq_8, hzq_8⟩, ⟨hkq_9, hlq_9, hzq_9⟩, ⟨hkq_10, hlq_10, hzq_10⟩, ⟨hkq_11, hlq_11, hzq_11⟩, _⟩ := hq'; go_simp; rfl))) | quiet_step ((intro hq; first | rfl | (go_at_call 12; exact Lib.Held.call hq (runs_is K O G s2 _ HRun.out ad0 cap _ (HR.out.below hq.1))) | (have hq' := hq; obtain ⟨hbq, heq, ⟨hkq_0, hlq_0, hzq_0⟩, ⟨hkq_1, hlq_1, hzq_1⟩, ⟨hkq_2, hlq_2, hzq_2⟩, ⟨hkq_3, hlq_3, hzq_3⟩, ⟨hkq_4, hlq_4, hzq_4⟩, ⟨hkq_5, hlq_5, hzq_5⟩, ⟨hkq_6, hlq_6, hzq_6⟩, ⟨hkq_7, hlq_7, hzq_7⟩, ⟨hkq_8, hlq_8, hzq_8⟩, ⟨hkq_9, hlq_9, hzq_9⟩, ⟨hkq_10, hlq_10, hzq_10⟩, ⟨hkq_11, hlq_11, hzq_11⟩, _⟩ := hq'; go_simp; rfl))))
                refine wpQuiet_nil ?_
                intro W8 hq8
                obtain ⟨hb8, he8, ⟨hk8_0, hl8_0, hz8_0⟩, ⟨hk8_1, hl8_1, hz8_1⟩, ⟨hk8_2, hl8_2, hz8_2⟩, ⟨hk8_3, hl8_3, hz8_3⟩, ⟨hk8_4, hl8_4, hz8_4⟩, ⟨hk8_5, hl8_5, hz8_5⟩, ⟨hk8_6, hl8_6, hz8_6⟩, ⟨hk8_7, hl8_7, hz8_7⟩, ⟨hk8_8, hl8_8, hz8_8⟩, ⟨hk8_9, hl8_9, hz8_9⟩, ⟨hk8_10, hl8_10, hz8_10⟩, ⟨hk8_11, hl8_11, hz8_11⟩, _⟩ := hq8
                have hs8 := he8.size
                try simp only [World.size_alloc, World.size_setCell, World.size_drew] at hs8
                go_wp2_with fail
                go_roundw
                case rel => exact ⟨j + 1, G, s2, by omega, by go_num, HV2.out, by go_grown, by go_size, ⟨⟨by go_cell, by go_cell, by go_cell, by go_cell⟩, by first | (with_reducible assumption) | (go_simp; done) | (simp [*]; done), by first | (with_reducible assumption) | (go_simp; done) | (simp [*]; done), by first | (with_reducible assumption) | (go_simp; done) | (simp [*]; done), by first | (with_reducible assumption) | (go_simp; done) | (simp [*]; done)⟩⟩
                case measure => simp [intOf]; omega
            · as_aux_lemma =>
                rw [b8] at g8 k8; rw [b4] at g4; rw [b2] at g2; rw [b1] at k1
                have HAcc := Lib.hid ba
                clear hok2 ba b1 b2 b8 b4
                go_wp2_with fail
                refine (write_to K O G s1 wd s2 HV1.out HZ.out HS2.out ad0 cap _ (HR.out.below (by go_grown))).mono ?_
                rintro eE W5 ⟨rfl, hg5⟩
                have hb5 : Below w.heap.size w W5 := (show Below w.heap.size w _ by go_grown).trans (hg5.mono (by first | omega | go_size))
                obtain ⟨hc5, hf5⟩ := bcell hg5
                have hs5 := hg5.size
                try simp only [World.size_alloc, World.size_setCell, World.size_drew] at hs5
                have hl5_0_0 : W5.cell? ⟨W3.heap.size, 0, none⟩ = some (num K) := (hc5 _ _ (by first | omega | go_size)).trans (by first | (with_reducible assumption) | go_cell)
                have hz5_0_0 : W5.frozen? ⟨W3.heap.size, 0, none⟩ = false := (hf5 _ _ (by first | omega | go_size)).trans (by first | (with_reducible assumption) | (go_simp; done) | (simp [*]; done))
                have hl5_0_1 : W5.cell? ⟨W3.heap.size, 1, none⟩ = some (st O) := (hc5 _ _ (by first | omega | go_size)).trans (by first | (with_reducible assumption) | go_cell)
                have hz5_0_1 : W5.frozen? ⟨W3.heap.size, 1, none⟩ = false := (hf5 _ _ (by first | omega | go_size)).trans (by first | (with_reducible assumption) | (go_simp; done) | (simp [*]; done))
                have hl5_0_2 : W5.cell? ⟨W3.heap.size, 2, none⟩ = some (st G) := (hc5 _ _ (by first | omega | go_size)).trans (by first | (with_reducible assumption) | go_cell)
                have hz5_0_2 : W5.frozen? ⟨W3.heap.size, 2, none⟩ = false := (hf5 _ _ (by first | omega | go_size)).trans (by first | (with_reducible assumption) | (go_simp; done) | (simp [*]; done))
                have hl5_0_3 : W5.cell? ⟨W3.heap.size, 3, none⟩ = some (by8 s1) := (hc5 _ _ (by first | omega | go_size)).trans (by first | (with_reducible assumption) | go_cell)
                have hz5_0_3 : W5.frozen? ⟨W3.heap.size, 3, none⟩ = false := (hf5 _ _ (by first | omega | go_size)).trans (by first | (with_reducible assumption) | (go_simp; done) | (simp [*]; done))
                have hk5_0 : W3.heap.size < W5.heap.size := by omega
                have hl5_1_0 : W5.cell? ⟨wr.heap.size, 0, none⟩ = some (num kd) := (hc5 _ _ (by first | omega | go_size)).trans (by first | (with_reducible assumption) | go_cell)
                have hz5_1_0 : W5.frozen? ⟨wr.heap.size, 0, none⟩ = false := (hf5 _ _ (by first | omega | go_size)).trans (by first | (with_reducible assumption) | (go_simp; done) | (simp [*]; done))
                have hl5_1_1 : W5.cell? ⟨wr.heap.size, 1, none⟩ = some (by8 wd) := (hc5 _ _ (by first | omega | go_size)).trans (by first | (with_reducible assumption) | go_cell)
                have hz5_1_1 : W5.frozen? ⟨wr.heap.size, 1, none⟩ = false := (hf5 _ _ (by first | omega | go_size)).trans (by first | (with_reducible assumption) | (go_simp; done) | (simp [*]; done))
                have hl5_1_2 : W5.cell? ⟨wr.heap.size, 2, none⟩ = some (st S) := (hc5 _ _ (by first | omega | go_size)).trans (by first | (with_reducible assumption) | go_cell)
                have hz5_1_2 : W5.frozen? ⟨wr.heap.size, 2, none⟩ = false := (hf5 _ _ (by first | omega | go_size)).trans (by first | (with_reducible assumption) | (go_simp; done) | (simp [*]; done))
                have hl5_1_3 : W5.cell? ⟨wr.heap.size, 3, none⟩ = some (.bool nd) := (hc5 _ _ (by first | omega | go_size)).trans (by first | (with_reducible assumption) | go_cell)
                have hz5_1_3 : W5.frozen? ⟨wr.heap.size, 3, none⟩ = false := (hf5 _ _ (by first | omega | go_size)).trans (by first | (with_reducible assumption) | (go_simp; done) | (simp [*]; done))
                have hk5_1 : wr.heap.size < W5.heap.size := by omega
                have hl5_2_0 : W5.cell? ⟨wr.heap.size + 1, 0, none⟩ = some (num K) := (hc5 _ _ (by first | omega | go_size)).trans (by first | (with_reducible assumption) | go_cell)
                have hz5_2_0 : W5.frozen? ⟨wr.heap.size + 1, 0, none⟩ = false := (hf5 _ _ (by first | omega | go_size)).trans (by first | (with_reducible assumption) | (go_simp; done) | (simp [*]; done))
                have hl5_2_1 : W5.cell? ⟨wr.heap.size + 1, 1, none⟩ = some (st O) := (hc5 _ _ (by first | omega | go_size)).trans (by first | (with_reducible assumption) | go_cell)
                have hz5_2_1 : W5.frozen? ⟨wr.heap.size + 1, 1, none⟩ = false := (hf5 _ _ (by first | omega | go_size)).trans (by first | (with_reducible assumption) | (go_simp; done) | (simp [*]; done))
                have hl5_2_2 : W5.cell? ⟨wr.heap.size + 1, 2, none⟩ = some (st G) := (hc5 _ _ (by first | omega | go_size)).trans (by first | (with_reducible assumption) | go_cell)
                have hz5_2_2 : W5.frozen? ⟨wr.heap.size + 1, 2, none⟩ = false := (hf5 _ _ (by first | omega | go_size)).trans (by first | (with_reducible assumption) | (go_simp; done) | (simp [*]; done))
                have hl5_2_3 : W5.cell? ⟨wr.heap.size + 1, 3, none⟩ = some (by8 s1) := (hc5 _ _ (by first | omega | go_size)).trans (by first | (with_reducible assumption) | go_cell)
                have hz5_2_3 : W5.frozen? ⟨wr.heap.size + 1, 3, none⟩ = false := (hf5 _ _ (by first | omega | go_size)).trans (by first | (with_reducible assumption) | (go_simp; done) | (simp [*]; done))
                have hk5_2 : wr.heap.size + 1 < W5.heap.size := by omega
                clear hg5 hc5 hf5
                go_wp2_with fail
                refine (check_is K O G s2 0 HC.out ad0 cap _ (HR.out.below (by go_grown))).mono ?_
                rintro eE W6 ⟨rfl, hg6⟩
                have hb6 : Below w.heap.size w W6 := (show Below w.heap.size w _ by go_grown).trans (hg6.mono (by first | omega | go_size))
                obtain ⟨hc6, hf6⟩ := bcell hg6
                have hs6 := hg6.size
                try simp only [World.size_alloc, World.size_setCell, World.size_drew] at hs6
                have hl6_0_0 : W6.cell? ⟨W3.heap.size, 0, none⟩ = some (num K) := (hc6 _ _ (by first | omega | go_size)).trans (by first | (with_reducible assumption) | go_cell)
                have hz6_0_0 : W6.frozen? ⟨W3.heap.size, 0, none⟩ = false := (hf6 _ _ (by first | omega | go_size)).trans (by first | (with_reducible assumption) | (go_simp; done) | (simp [*]; done))
                have hl6_0_1 : W6.cell? ⟨W3.heap.size, 1, none⟩ = some (st O) := (hc6 _ _ (by first | omega | go_size)).trans (by first | (with_reducible assumption) | go_cell)
                have hz6_0_1 : W6.frozen? ⟨W3.heap.size, 1, none⟩ = false := (hf6 _ _ (by first | omega | go_size)).trans (by first | (with_reducible assumption) | (go_simp; done) | (simp [*]; done))
                have hl6_0_2 : W6.cell? ⟨W3.heap.size, 2, none⟩ = some (st G) := (hc6 _ _ (by first | omega | go_size)).trans (by first | (with_reducible assumption) | go_cell)
                have hz6_0_2 : W6.frozen? ⟨W3.heap.size, 2, none⟩ = false := (hf6 _ _ (by first | omega | go_size)).trans (by first | (with_reducible assumption) | (go_simp; done) | (simp [*]; done))
                have hl6_0_3 : W6.cell? ⟨W3.heap.size, 3, none⟩ = some (by8 s2) := (hc6 _ _ (by first | omega | go_size)).trans (by first | (with_reducible assumption) | go_cell)
                have hz6_0_3 : W6.frozen? ⟨W3.heap.size, 3, none⟩ = false := (hf6 _ _ (by first | omega | go_size)).trans (by first | (with_reducible assumption) | (go_simp; done) | (simp [*]; done))
                have hk6_0 : W3.heap.size < W6.heap.size := by omega
                have hl6_1_0 : W6.cell? ⟨wr.heap.size, 0, none⟩ = some (num kd) := (hc6 _ _ (by first | omega | go_size)).trans (by first | (with_reducible assumption) | go_cell)
                have hz6_1_0 : W6.frozen? ⟨wr.heap.size, 0, none⟩ = false := (hf6 _ _ (by first | omega | go_size)).trans (by first | (with_reducible assumption) | (go_simp; done) | (simp [*]; done))
                have hl6_1_1 : W6.cell? ⟨wr.heap.size, 1, none⟩ = some (by8 wd) := (hc6 _ _ (by first | omega | go_size)).trans (by first | (with_reducible assumption) | go_cell)
                have hz6_1_1 : W6.frozen? ⟨wr.heap.size, 1, none⟩ = false := (hf6 _ _ (by first | omega | go_size)).trans (by first | (with_reducible assumption) | (go_simp; done) | (simp [*]; done))
                have hl6_1_2 : W6.cell? ⟨wr.heap.size, 2, none⟩ = some (st S) := (hc6 _ _ (by first | omega | go_size)).trans (by first | (with_reducible assumption) | go_cell)
                have hz6_1_2 : W6.frozen? ⟨wr.heap.size, 2, none⟩ = false := (hf6 _ _ (by first | omega | go_size)).trans (by first | (with_reducible assumption) | (go_simp; done) | (simp [*]; done))
                have hl6_1_3 : W6.cell? ⟨wr.heap.size, 3, none⟩ = some (.bool nd) := (hc6 _ _ (by first | omega | go_size)).trans (by first | (with_reducible assumption) | go_cell)
                have hz6_1_3 : W6.frozen? ⟨wr.heap.size, 3, none⟩ = false := (hf6 _ _ (by first | omega | go_size)).trans (by first | (with_reducible assumption) | (go_simp; done) | (simp [*]; done))
                have hk6_1 : wr.heap.size < W6.heap.size := by omega
                have hl6_2_0 : W6.cell? ⟨wr.heap.size + 1, 0, none⟩ = some (num K) := (hc6 _ _ (by first | omega | go_size)).trans (by first | (with_reducible assumption) | go_cell)
                have hz6_2_0 : W6.frozen? ⟨wr.heap.size + 1, 0, none⟩ = false := (hf6 _ _ (by first | omega | go_size)).trans (by first | (with_reducible assumption) | (go_simp; done) | (simp [*]; done))
                have hl6_2_1 : W6.cell? ⟨wr.heap.size + 1, 1, none⟩ = some (st O) := (hc6 _ _ (by first | omega | go_size)).trans (by first | (with_reducible assumption) | go_cell)
                have hz6_2_1 : W6.frozen? ⟨wr.heap.size + 1, 1, none⟩ = false := (hf6 _ _ (by first | omega | go_size)).trans (by first | (with_reducible assumption) | (go_simp; done) | (simp [*]; done))
                have hl6_2_2 : W6.cell? ⟨wr.heap.size + 1, 2, none⟩ = some (st G) := (hc6 _ _ (by first | omega | go_size)).trans (by first | (with_reducible assumption) | go_cell)
                have hz6_2_2 : W6.frozen? ⟨wr.heap.size + 1, 2, none⟩ = false := (hf6 _ _ (by first | omega | go_size)).trans (by first | (with_reducible assumption) | (go_simp; done) | (simp [*]; done))
                have hl6_2_3 : W6.cell? ⟨wr.heap.size + 1, 3, none⟩ = some (by8 s1) := (hc6 _ _ (by first | omega | go_size)).trans (by first | (with_reducible assumption) | go_cell)
                have hz6_2_3 : W6.frozen? ⟨wr.heap.size + 1, 3, none⟩ = false := (hf6 _ _ (by first | omega | go_size)).trans (by first | (with_reducible assumption) | (go_simp; done) | (simp [*]; done))
                have hk6_2 : wr.heap.size + 1 < W6.heap.size := by omega
                clear hg6 hc6 hf6
                go_wp2_with fail
                refine (StR.accept_is K O G true HAcc.out _).mono ?_
                rintro eE W7 ⟨rfl, hg7⟩
                have hb7 : Below w.heap.size w W7 := (show Below w.heap.size w _ by go_grown).trans (hg7.mono (by first | omega | go_size))
                obtain ⟨hc7, hf7⟩ := bcell hg7
                have hs7 := hg7.size
                try simp only [World.size_alloc, World.size_setCell, World.size_drew] at hs7
                have hl7_0_0 : W7.cell? ⟨W3.heap.size, 0, none⟩ = some (num K) := (hc7 _ _ (by first | omega | go_size)).trans (by first | (with_reducible assumption) | go_cell)
                have hz7_0_0 : W7.frozen? ⟨W3.heap.size, 0, none⟩ = false := (hf7 _ _ (by first | omega | go_size)).trans (by first | (with_reducible assumption) | (go_simp; done) | (simp [*]; done))
                have hl7_0_1 : W7.cell? ⟨W3.heap.size, 1, none⟩ = some (st O) := (hc7 _ _ (by first | omega | go_size)).trans (by first | (with_reducible assumption) | go_cell)
                have hz7_0_1 : W7.frozen? ⟨W3.heap.size, 1, none⟩ = false := (hf7 _ _ (by first | omega | go_size)).trans (by first | (with_reducible assumption) | (go_simp; done) | (simp [*]; done))
                have hl7_0_2 : W7.cell? ⟨W3.heap.size, 2, none⟩ = some (st G) := (hc7 _ _ (by first | omega | go_size)).trans (by first | (with_reducible assumption) | go_cell)
                have hz7_0_2 : W7.frozen? ⟨W3.heap.size, 2, none⟩ = false := (hf7 _ _ (by first | omega | go_size)).trans (by first | (with_reducible assumption) | (go_simp; done) | (simp [*]; done))
                have hl7_0_3 : W7.cell? ⟨W3.heap.size, 3, none⟩ = some (by8 s2) := (hc7 _ _ (by first | omega | go_size)).trans (by first | (with_reducible assumption) | go_cell)
                have hz7_0_3 : W7.frozen? ⟨W3.heap.size, 3, none⟩ = false := (hf7 _ _ (by first | omega | go_size)).trans (by first | (with_reducible assumption) | (go_simp; done) | (simp [*]; done))
                have hk7_0 : W3.heap.size < W7.heap.size := by omega
                have hl7_1_0 : W7.cell? ⟨wr.heap.size, 0, none⟩ = some (num kd) := (hc7 _ _ (by first | omega | go_size)).trans (by first | (with_reducible assumption) | go_cell)
                have hz7_1_0 : W7.frozen? ⟨wr.heap.size, 0, none⟩ = false := (hf7 _ _ (by first | omega | go_size)).trans (by first | (with_reducible assumption) | (go_simp; done) | (simp [*]; done))
                have hl7_1_1 : W7.cell? ⟨wr.heap.size, 1, none⟩ = some (by8 wd) := (hc7 _ _ (by first | omega | go_size)).trans (by first | (with_reducible assumption) | go_cell)
                have hz7_1_1 : W7.frozen? ⟨wr.heap.size, 1, none⟩ = false := (hf7 _ _ (by first | omega | go_size)).trans (by first | (with_reducible assumption) | (go_simp; done) | (simp [*]; done))
                have hl7_1_2 : W7.cell? ⟨wr.heap.size, 2, none⟩ = some (st S) := (hc7 _ _ (by first | omega | go_size)).trans (by first | (with_reducible assumption) | go_cell)
                have hz7_1_2 : W7.frozen? ⟨wr.heap.size, 2, none⟩ = false := (hf7 _ _ (by first | omega | go_size)).trans (by first | (with_reducible assumption) | (go_simp; done) | (simp [*]; done))
                have hl7_1_3 : W7.cell? ⟨wr.heap.size, 3, none⟩ = some (.bool nd) := (hc7 _ _ (by first | omega | go_size)).trans (by first | (with_reducible assumption) | go_cell)
                have hz7_1_3 : W7.frozen? ⟨wr.heap.size, 3, none⟩ = false := (hf7 _ _ (by first | omega | go_size)).trans (by first | (with_reducible assumption) | (go_simp; done) | (simp [*]; done))
                have hk7_1 : wr.heap.size < W7.heap.size := by omega
                have hl7_2_0 : W7.cell? ⟨wr.heap.size + 1, 0, none⟩ = some (num K) := (hc7 _ _ (by first | omega | go_size)).trans (by first | (with_reducible assumption) | go_cell)
                have hz7_2_0 : W7.frozen? ⟨wr.heap.size + 1, 0, none⟩ = false := (hf7 _ _ (by first | omega | go_size)).trans (by first | (with_reducible assumption) | (go_simp; done) | (simp [*]; done))
                have hl7_2_1 : W7.cell? ⟨wr.heap.size + 1, 1, none⟩ = some (st O) := (hc7 _ _ (by first | omega | go_size)).trans (by first | (with_reducible assumption) | go_cell)
                have hz7_2_1 : W7.frozen? ⟨wr.heap.size + 1, 1, none⟩ = false := (hf7 _ _ (by first | omega | go_size)).trans (by first | (with_reducible assumption) | (go_simp; done) | (simp [*]; done))
                have hl7_2_2 : W7.cell? ⟨wr.heap.size + 1, 2, none⟩ = some (st G) := (hc7 _ _ (by first | omega | go_size)).trans (by first | (with_reducible assumption) | go_cell)
                have hz7_2_2 : W7.frozen? ⟨wr.heap.size + 1, 2, none⟩ = false := (hf7 _ _ (by first | omega | go_size)).trans (by first | (with_reducible assumption) | (go_simp; done) | (simp [*]; done))
                have hl7_2_3 : W7.cell? ⟨wr.heap.size + 1, 3, none⟩ = some (by8 s1) := (hc7 _ _ (by first | omega | go_size)).trans (by first | (with_reducible assumption) | go_cell)
                have hz7_2_3 : W7.frozen? ⟨wr.heap.size + 1, 3, none⟩ = false := (hf7 _ _ (by first | omega | go_size)).trans (by first | (with_reducible assumption) | (go_simp; done) | (simp [*]; done))
                have hk7_2 : wr.heap.size + 1 < W7.heap.size := by omega
                clear hg7 hc7 hf7
                go_wp2_with fail
                refine Lib.wp_region_class (Lib.Held w _ [(W3.heap.size, 0, (num K : Value)), (W3.heap.size, 1, (st O : Value)), (W3.heap.size, 2, (st G : Value)), (W3.heap.size, 3, (by8 s2 : Value)), (wr.heap.size, 0, (num kd : Value)), (wr.heap.size, 1, (by8 wd : Value)), (wr.heap.size, 2, (st S : Value)), (wr.heap.size, 3, (.bool nd : Value)), (wr.heap.size + 1, 0, (num K : Value)), (wr.heap.size + 1, 1, (st O : Value)), (wr.heap.size + 1, 2, (st G : Value)), (wr.heap.size + 1, 3, (by8 s1 : Value))]) (by kernel_rfl) (by kernel_rfl) ⟨by go_grown, Below.refl _ _, ⟨by first | omega | go_size, by first | go_cell | (simp [*]; done), by first | (with_reducible assumption) | (go_simp; done) | (simp [*]; done)⟩, ⟨by first | omega | go_size, by first | go_cell | (simp [*]; done), by first | (with_reducible assumption) | (go_simp; done) | (simp [*]; done)⟩, ⟨by first | omega | go_size, by first | go_cell | (simp [*]; done), by first | (with_reducible assumption) | (go_simp; done) | (simp [*]; done)⟩, ⟨by first | omega | go_size, by first | go_cell | (simp [*]; done), by first | (with_reducible assumption) | (go_simp; done) | (simp [*]; done)⟩, ⟨by first | omega | go_size, by first | go_cell | (simp [*]; done), by first | (with_reducible assumption) | (go_simp; done) | (simp [*]; done)⟩, ⟨by first | omega | go_size, by first | go_cell | (simp [*]; done), by first | (with_reducible assumption) | (go_simp; done) | (simp [*]; done)⟩, ⟨by first | omega | go_size, by first | go_cell | (simp [*]; done), by first | (with_reducible assumption) | (go_simp; done) | (simp [*]; done)⟩, ⟨by first | omega | go_size, by first | go_cell | (simp [*]; done), by first | (with_reducible assumption) | (go_simp; done) | (simp [*]; done)⟩, ⟨by first | omega | go_size, by first | go_cell | (simp [*]; done), by first | (with_reducible assumption) | (go_simp; done) | (simp [*]; done)⟩, ⟨by first | omega | go_size, by first | go_cell | (simp [*]; done), by first | (with_reducible assumption) | (go_simp; done) | (simp [*]; done)⟩, ⟨by first | omega | go_size, by first | go_cell | (simp [*]; done), by first | (with_reducible assumption) | (go_simp; done) | (simp [*]; done)⟩, ⟨by first | omega | go_size, by first | go_cell | (simp [*]; done), by first | (with_reducible assumption) | (go_simp; done) | (simp [*]; done)⟩, trivial⟩ ?_
                repeat (first | go_big_quiet_step ((intro hq; first | rfl | (go_at_call 12; exact Lib.Held.call hq (runs_is K O G s2 _ HRun.out ad0 cap _ (HR.out.below hq.1))) | (have hq' := hq; obtain ⟨hbq, heq, ⟨hkq_0, hlq_0, hzq_0⟩, ⟨hkq_1, hlq_1, hzq_1⟩, ⟨hkq_2, hlq_2, hzq_2⟩, ⟨hkq_3, hlq_3, hzq_3⟩, ⟨hkq_4, hlq_4, hzq_4⟩, ⟨hkq_5, hlq_5, hzq_5⟩, ⟨hkq_6, hlq_6, hzq_6⟩, ⟨hkq_7, hlq_7, hzq_7⟩, ⟨hkq_8, hlq_8, hzq_8⟩, ⟨hkq_9, hlq_9, hzq_9⟩, ⟨hkq_10, hlq_10, hzq_10⟩, ⟨hkq_11, hlq_11, hzq_11⟩, _⟩ := hq'; go_simp; rfl))) | quiet_step ((intro hq; first | rfl | (go_at_call 12; exact Lib.Held.call hq (runs_is K O G s2 _ HRun.out ad0 cap _ (HR.out.below hq.1))) | (have hq' := hq; obtain ⟨hbq, heq, ⟨hkq_0, hlq_0, hzq_0⟩, ⟨hkq_1, hlq_1, hzq_1⟩, ⟨hkq_2, hlq_2, hzq_2⟩, ⟨hkq_3, hlq_3, hzq_3⟩, ⟨hkq_4, hlq_4, hzq_4⟩, ⟨hkq_5, hlq_5, hzq_5⟩, ⟨hkq_6, hlq_6, hzq_6⟩, ⟨hkq_7, hlq_7, hzq_7⟩, ⟨hkq_8, hlq_8, hzq_8⟩, ⟨hkq_9, hlq_9, hzq_9⟩, ⟨hkq_10, hlq_10, hzq_10⟩, ⟨hkq_11, hlq_11, hzq_11⟩, _⟩ := hq'; go_simp; rfl))))
                refine wpQuiet_nil ?_
                intro W8 hq8
                obtain ⟨hb8, he8, ⟨hk8_0, hl8_0, hz8_0⟩, ⟨hk8_1, hl8_1, hz8_1⟩, ⟨hk8_2, hl8_2, hz8_2⟩, ⟨hk8_3, hl8_3, hz8_3⟩, ⟨hk8_4, hl8_4, hz8_4⟩, ⟨hk8_5, hl8_5, hz8_5⟩, ⟨hk8_6, hl8_6, hz8_6⟩, ⟨hk8_7, hl8_7, hz8_7⟩, ⟨hk8_8, hl8_8, hz8_8⟩, ⟨hk8_9, hl8_9, hz8_9⟩, ⟨hk8_10, hl8_10, hz8_10⟩, ⟨hk8_11, hl8_11, hz8_11⟩, _⟩ := hq8
                have hs8 := he8.size
                try simp only [World.size_alloc, World.size_setCell, World.size_drew] at hs8
                go_wp2_with fail
                go_roundw
                case rel => exact ⟨j + 1, G, s2, by omega, by go_num, HV2.out, by go_grown, by go_size, ⟨⟨by go_cell, by go_cell, by go_cell, by go_cell⟩, by first | (with_reducible assumption) | (go_simp; done) | (simp [*]; done), by first | (with_reducible assumption) | (go_simp; done) | (simp [*]; done), by first | (with_reducible assumption) | (go_simp; done) | (simp [*]; done), by first | (with_reducible assumption) | (go_simp; done) | (simp [*]; done)⟩⟩
                case measure => simp [intOf]; omega
    · obtain rfl : j = k := by omega
      as_aux_lemma =>
        have HV := Lib.hid hv
        obtain ⟨hb, hk⟩ := offers_best HO.out
        have dj : decide (((j : Nat) : Int) < ((j : Nat) : Int)) = false := decide_eq_false (by omega)
        generalize hB : bestF K O (18446744073709551615#64) = B
        have ha : acceptB K O B = true := hB ▸ best_accepted hk hb
        have HB := Lib.hid hB
        have HBK := Lib.hid hb
        have H15 := Lib.hid (v15 HO.out ha)
        have HR15 := Lib.hid (show runsB K O B 15#8 = true by unfold runsB; rw [v15 HO.out ha]; rfl)
        have eB := beq_self_eq_true (nu B)
        have c15 : (nb 15#8 == 15) = true := rfl
        clear hv hb hk ha hB
        have hk0 : W3.heap.size < wr.heap.size := hsz
        go_wp2_with fail
        refine (init_ok K O G s (18446744073709551615#64) B HV.out HB.out ad0 cap _ (HR.out.below (by go_grown))).mono ?_
        rintro eE W4 ⟨rfl, hg4⟩
        have hb4 : Below w.heap.size w W4 := (show Below w.heap.size w _ by go_grown).trans (hg4.mono (by first | omega | go_size))
        obtain ⟨hc4, hf4⟩ := bcell hg4
        have hs4 := hg4.size
        try simp only [World.size_alloc, World.size_setCell, World.size_drew] at hs4
        have hl4_0_0 : W4.cell? ⟨W3.heap.size, 0, none⟩ = some (num K) := (hc4 _ _ (by first | omega | go_size)).trans (by first | (with_reducible assumption) | go_cell)
        have hz4_0_0 : W4.frozen? ⟨W3.heap.size, 0, none⟩ = false := (hf4 _ _ (by first | omega | go_size)).trans (by first | (with_reducible assumption) | (go_simp; done) | (simp [*]; done))
        have hl4_0_1 : W4.cell? ⟨W3.heap.size, 1, none⟩ = some (st O) := (hc4 _ _ (by first | omega | go_size)).trans (by first | (with_reducible assumption) | go_cell)
        have hz4_0_1 : W4.frozen? ⟨W3.heap.size, 1, none⟩ = false := (hf4 _ _ (by first | omega | go_size)).trans (by first | (with_reducible assumption) | (go_simp; done) | (simp [*]; done))
        have hl4_0_2 : W4.cell? ⟨W3.heap.size, 2, none⟩ = some (st G) := (hc4 _ _ (by first | omega | go_size)).trans (by first | (with_reducible assumption) | go_cell)
        have hz4_0_2 : W4.frozen? ⟨W3.heap.size, 2, none⟩ = false := (hf4 _ _ (by first | omega | go_size)).trans (by first | (with_reducible assumption) | (go_simp; done) | (simp [*]; done))
        have hl4_0_3 : W4.cell? ⟨W3.heap.size, 3, none⟩ = some (by8 s) := (hc4 _ _ (by first | omega | go_size)).trans (by first | (with_reducible assumption) | go_cell)
        have hz4_0_3 : W4.frozen? ⟨W3.heap.size, 3, none⟩ = false := (hf4 _ _ (by first | omega | go_size)).trans (by first | (with_reducible assumption) | (go_simp; done) | (simp [*]; done))
        have hk4_0 : W3.heap.size < W4.heap.size := by omega
        clear hg4 hc4 hf4
        go_wp2_with fail
        refine (StR.best_is K O (18446744073709551615#64) B HB.out HBK.out _).mono ?_
        rintro eE W5 ⟨rfl, hg5⟩
        have hb5 : Below w.heap.size w W5 := (show Below w.heap.size w _ by go_grown).trans (hg5.mono (by first | omega | go_size))
        obtain ⟨hc5, hf5⟩ := bcell hg5
        have hs5 := hg5.size
        try simp only [World.size_alloc, World.size_setCell, World.size_drew] at hs5
        have hl5_0_0 : W5.cell? ⟨W4.heap.size, 0, none⟩ = some (num K) := (hc5 _ _ (by first | omega | go_size)).trans (by first | (with_reducible assumption) | go_cell)
        have hz5_0_0 : W5.frozen? ⟨W4.heap.size, 0, none⟩ = false := (hf5 _ _ (by first | omega | go_size)).trans (by first | (with_reducible assumption) | (go_simp; done) | (simp [*]; done))
        have hl5_0_1 : W5.cell? ⟨W4.heap.size, 1, none⟩ = some (st O) := (hc5 _ _ (by first | omega | go_size)).trans (by first | (with_reducible assumption) | go_cell)
        have hz5_0_1 : W5.frozen? ⟨W4.heap.size, 1, none⟩ = false := (hf5 _ _ (by first | omega | go_size)).trans (by first | (with_reducible assumption) | (go_simp; done) | (simp [*]; done))
        have hl5_0_2 : W5.cell? ⟨W4.heap.size, 2, none⟩ = some (st B) := (hc5 _ _ (by first | omega | go_size)).trans (by first | (with_reducible assumption) | go_cell)
        have hz5_0_2 : W5.frozen? ⟨W4.heap.size, 2, none⟩ = false := (hf5 _ _ (by first | omega | go_size)).trans (by first | (with_reducible assumption) | (go_simp; done) | (simp [*]; done))
        have hl5_0_3 : W5.cell? ⟨W4.heap.size, 3, none⟩ = some (by8 15#8) := (hc5 _ _ (by first | omega | go_size)).trans (by first | (with_reducible assumption) | go_cell)
        have hz5_0_3 : W5.frozen? ⟨W4.heap.size, 3, none⟩ = false := (hf5 _ _ (by first | omega | go_size)).trans (by first | (with_reducible assumption) | (go_simp; done) | (simp [*]; done))
        have hk5_0 : W4.heap.size < W5.heap.size := by omega
        clear hg5 hc5 hf5
        go_wp2_with fail
        refine (fixed_ok K O B 15#8 H15.out rfl ad0 cap _ (HR.out.below (by go_grown))).mono ?_
        rintro eE W6 ⟨rfl, hg6⟩
        have hb6 : Below w.heap.size w W6 := (show Below w.heap.size w _ by go_grown).trans (hg6.mono (by first | omega | go_size))
        obtain ⟨hc6, hf6⟩ := bcell hg6
        have hs6 := hg6.size
        try simp only [World.size_alloc, World.size_setCell, World.size_drew] at hs6
        have hl6_0_0 : W6.cell? ⟨W4.heap.size, 0, none⟩ = some (num K) := (hc6 _ _ (by first | omega | go_size)).trans (by first | (with_reducible assumption) | go_cell)
        have hz6_0_0 : W6.frozen? ⟨W4.heap.size, 0, none⟩ = false := (hf6 _ _ (by first | omega | go_size)).trans (by first | (with_reducible assumption) | (go_simp; done) | (simp [*]; done))
        have hl6_0_1 : W6.cell? ⟨W4.heap.size, 1, none⟩ = some (st O) := (hc6 _ _ (by first | omega | go_size)).trans (by first | (with_reducible assumption) | go_cell)
        have hz6_0_1 : W6.frozen? ⟨W4.heap.size, 1, none⟩ = false := (hf6 _ _ (by first | omega | go_size)).trans (by first | (with_reducible assumption) | (go_simp; done) | (simp [*]; done))
        have hl6_0_2 : W6.cell? ⟨W4.heap.size, 2, none⟩ = some (st B) := (hc6 _ _ (by first | omega | go_size)).trans (by first | (with_reducible assumption) | go_cell)
        have hz6_0_2 : W6.frozen? ⟨W4.heap.size, 2, none⟩ = false := (hf6 _ _ (by first | omega | go_size)).trans (by first | (with_reducible assumption) | (go_simp; done) | (simp [*]; done))
        have hl6_0_3 : W6.cell? ⟨W4.heap.size, 3, none⟩ = some (by8 15#8) := (hc6 _ _ (by first | omega | go_size)).trans (by first | (with_reducible assumption) | go_cell)
        have hz6_0_3 : W6.frozen? ⟨W4.heap.size, 3, none⟩ = false := (hf6 _ _ (by first | omega | go_size)).trans (by first | (with_reducible assumption) | (go_simp; done) | (simp [*]; done))
        have hk6_0 : W4.heap.size < W6.heap.size := by omega
        clear hg6 hc6 hf6
        go_wp2_with fail
        refine (runs_is K O B 15#8 true HR15.out ad0 cap _ (HR.out.below (by go_grown))).mono ?_
        rintro eE W7 ⟨rfl, hg7⟩
        have hb7 : Below w.heap.size w W7 := (show Below w.heap.size w _ by go_grown).trans (hg7.mono (by first | omega | go_size))
        obtain ⟨hc7, hf7⟩ := bcell hg7
        have hs7 := hg7.size
        try simp only [World.size_alloc, World.size_setCell, World.size_drew] at hs7
        have hl7_0_0 : W7.cell? ⟨W4.heap.size, 0, none⟩ = some (num K) := (hc7 _ _ (by first | omega | go_size)).trans (by first | (with_reducible assumption) | go_cell)
        have hz7_0_0 : W7.frozen? ⟨W4.heap.size, 0, none⟩ = false := (hf7 _ _ (by first | omega | go_size)).trans (by first | (with_reducible assumption) | (go_simp; done) | (simp [*]; done))
        have hl7_0_1 : W7.cell? ⟨W4.heap.size, 1, none⟩ = some (st O) := (hc7 _ _ (by first | omega | go_size)).trans (by first | (with_reducible assumption) | go_cell)
        have hz7_0_1 : W7.frozen? ⟨W4.heap.size, 1, none⟩ = false := (hf7 _ _ (by first | omega | go_size)).trans (by first | (with_reducible assumption) | (go_simp; done) | (simp [*]; done))
        have hl7_0_2 : W7.cell? ⟨W4.heap.size, 2, none⟩ = some (st B) := (hc7 _ _ (by first | omega | go_size)).trans (by first | (with_reducible assumption) | go_cell)
        have hz7_0_2 : W7.frozen? ⟨W4.heap.size, 2, none⟩ = false := (hf7 _ _ (by first | omega | go_size)).trans (by first | (with_reducible assumption) | (go_simp; done) | (simp [*]; done))
        have hl7_0_3 : W7.cell? ⟨W4.heap.size, 3, none⟩ = some (by8 15#8) := (hc7 _ _ (by first | omega | go_size)).trans (by first | (with_reducible assumption) | go_cell)
        have hz7_0_3 : W7.frozen? ⟨W4.heap.size, 3, none⟩ = false := (hf7 _ _ (by first | omega | go_size)).trans (by first | (with_reducible assumption) | (go_simp; done) | (simp [*]; done))
        have hk7_0 : W4.heap.size < W7.heap.size := by omega
        clear hg7 hc7 hf7
        go_wp2_with fail
        go_ret
        exact ⟨rfl, by go_grown⟩

theorem walk (n x : Int) (v : Value) (A : Option Addr) (k c : Nat) (f : Nat → Ac) (w : World) (hn : (Lit.int .i64 n).wf = true) (hx : (Lit.int .u64 x).wf = true) (hA : IsActs w v A k c f) (hG : Door.Given w) : Calls Tryd.prog 4 #[num n, .int .u64 x, v] w (Lib.True1 w.heap.size w) := by
  obtain rfl := hA.val
  by_cases h : 60 < k
  · exact walk_far n x A k c w hG (by have := hA.max; unfold maxLen at this; omega) hA.le h
  · obtain ⟨X, rfl⟩ := nu_of (in64 hx)
    exact walk_near n X A k c f w hn hA hG (by omega)

set_option maxRecDepth 100000 in
theorem lifted (os : Os) (started : os.Started) (H : Type) (enc : TypeId × Value → H) :
    ReturnsInHanded {} Tryd.checked os 4 .any (fun w args => (Rows.statusGoesSpec.pre enc Tryd.prog Tryd.f4 [] false w args ∧ laidMetH Tryd.prog Door.laidL w) ∧ sizedMet enc Tryd.prog Tryd.f4 (OpenSpec.ofChange Rows.statusGoesSpec) false w args) (Rows.statusGoesSpec.post enc Tryd.prog Tryd.f4 false true false false) := by
  refine LibD.lifted (C := Tryd.checked) (tb := 4) (laid := Door.laidL) H enc Lib.own started (by kernel_rfl) Tryd.func4
    (ChangeSpec.witness_shaped (enc := enc) (C := Tryd.checked) (os := os) (X := fun w _ => laidMetH Tryd.prog Door.laidL w) false (World.doorLaid Tryd.prog 400 os) #[.int .i64 0, .int .u64 0, .slice none 0 0] 8 rfl (World.shaped_of_RefB (by kernel_rfl) (by kernel_rfl)) (by kernel_rfl) (by kernel_rfl) (by kernel_rfl) (Door.met os _))
    Lib.laidOut (Lib.readable_of (by kernel_rfl)) rfl Tryd.underlying4 rfl ?_ ?_
  · intro ds h
    match ds, h with
    | [_, _, _], _ => exact ⟨rfl, rfl, rfl⟩
  · intro W base args ds p hval hA hfz hlt hL
    rw [Tryd.params4] at hval
    have hA' : DataW.TrodAll enc Tryd.prog W 0 (fun _ => true) true Tryd.f4.params.toList args.toList ds p := hA
    rw [Tryd.params4] at hA'
    obtain ⟨v0, vs0, d0, ds0, p0, q0, hargs, rfl, rfl, h0, r0⟩ := trodAll_cons hA'
    obtain ⟨v1, vs1, d1, ds1, p1, q1, rfl, rfl, rfl, h1, r1⟩ := trodAll_cons r0
    obtain ⟨v2, vs2, d2, ds2, p2, q2, rfl, rfl, rfl, h2, r2⟩ := trodAll_cons r1
    obtain ⟨rfl, rfl, rfl⟩ := trodAll_nil r2
    obtain rfl : args = #[v0, v1, v2] := by cases args; simp_all
    obtain ⟨a0, rfl, rfl, rfl, w0⟩ := open_int Tryd.underlying3 (hval 0 3 v0 rfl rfl) h0
    obtain ⟨a1, rfl, rfl, rfl, w1⟩ := open_int Tryd.underlying22 (hval 1 22 v1 rfl rfl) h1
    obtain ⟨a2_0, a2_1, a2_2, a2_3, w2⟩ := StArgs.open_acts (hval 2 37 v2 rfl rfl) h2
    exact walk a0 a1 v2 a2_0 a2_1 a2_2 a2_3 W w0 w1 w2 (Door.given hL)

theorem over : Rows.statusGoesRow.holds Tryd.pinned (OpenSpec.ofChange Rows.statusGoesSpec) :=
  OpenClaim.holds_of_wide 4 Tryd.f4 rfl rfl rfl rfl rfl rfl rfl ⟨rfl, rfl, rfl, rfl, rfl⟩ rfl rfl rfl rfl rfl (by kernel_rfl) Tryd.func4 (by kernel_rfl)
    (of_decide_eq_true (by kernel_rfl)) (by unfold Func.isWrapper; first | (rw [if_pos (by decide +kernel)]; kernel_rfl) | (rw [if_neg (by decide +kernel)]; exact ⟨rfl, rfl⟩))
    (fun os started H enc _ => lifted os started H enc)

/-- The statement. -/
theorem proved : Rows.StatusGoesCardSaid :=
  Claim7.holds_tied_plain_at .later [] Rows.statusGoesCard.laidKinds true Rows.statusGoesCard.stood.harness false
    over (fun _ h => by cases h) (by kernel_rfl) (fun _ h => by cases h) statusGoes_row_tie rfl ⟨rfl, rfl⟩ (by kernel_rfl) rfl
    (fun f fn hf hfn => by
      obtain rfl : f = 4 := Option.some.inj ((show Tryd.prog.funcNamed "dumbwaiter/dumbwaiterlaw07.StatusGoes" = some 4 by kernel_rfl).symm.trans hf) |>.symm
      obtain rfl : fn = Tryd.f4 := (Option.some.inj (Tryd.func4.symm.trans hfn)).symm
      exact ⟨by kernel_rfl, LibD.no_stand (by kernel_rfl)⟩)
    (by kernel_rfl)

end Go.Proofs.YtmmgcmbniidieaaDoor.StatusGoes
