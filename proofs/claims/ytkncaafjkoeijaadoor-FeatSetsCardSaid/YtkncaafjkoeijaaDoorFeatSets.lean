/- The law FeatSets: the union and the intersection of two closed sets are closed; a set with what it needs is closed. For every input; the package's rules as the program's text lays them. -/
import Derived.Test.YtkncaafjkoeijaaDoorFeLives
import Derived.Test.YtkncaafjkoeijaaDoorCards
import Derived.Test.YtkncaafjkoeijaaDoorPick
namespace Go.Proofs.YtkncaafjkoeijaaDoor.FeatSets
open Go.ChangeShapes Go.WideShapes Go.ChangeAt Go.RowKit Fe
set_option linter.unusedVariables false
set_option linter.unusedSimpArgs false

theorem of_u64 {a : Int} (h : (Lit.int .u64 a).wf = true) : ∃ X, a = nu X := nu_of (by have := bounds_u64 h; omega)
theorem kinds {r : Int} (h0 : 0 ≤ r) (h3 : r < 3) : 1 + r = 1 ∨ 1 + r = 2 ∨ 1 + r = 3 := by omega
theorem known_and {k : Int} (hk : k = 1 ∨ k = 2 ∨ k = 3) (X : Set64) : knownB k (X &&& allF k) = true :=
  (known_iff hk _).2 fun i _ h => by rw [BitVec.getLsbD_and, Bool.and_eq_true] at h; exact h.2
theorem closed_knows {k : Int} {X : Set64} (h : closedB k X = true) : needsF k X = 0#64 := by
  unfold closedB at h
  rw [Bool.and_eq_true] at h
  exact beq_iff_eq.1 h.2

set_option maxRecDepth 100000 in
set_option maxHeartbeats 4000000 in
theorem walk' (n : Int) (A B : Set64) (w : World) (hn : (Lit.int .i64 n).wf = true) (hG : Door.Given w) : Calls Tryd.prog 4 #[num n, st A, st B] w (Lib.True1 w.heap.size w) := by
  unfold Lib.True1
  obtain ⟨ad, cap, hR⟩ := hG
  have hb0 : Below w.heap.size w w := Below.refl _ _
  have HR := Lib.hid hR
  have HN := Lib.hid hn
  clear hR hn
  go_enter Tryd.func4, Tryd.ntmps4
  go_wp2_with fail
  refine (lives_any ad cap _ (HR.out.below (by go_grown))).mono ?_
  rintro eE W1 ⟨rfl, hg1⟩
  have hb1 : Below w.heap.size w W1 := (show Below w.heap.size w _ by go_grown).trans (hg1.mono (by first | omega | go_size))
  obtain ⟨hc1, hf1⟩ := bcell hg1
  have hs1 := hg1.size
  try simp only [World.size_alloc, World.size_setCell, World.size_drew] at hs1
  clear hg1 hc1 hf1
  go_wp2_with fail
  refine (Pick.pick_some n 3 (by decide) HN.out _).mono ?_
  rintro e W2 ⟨r, h0, h3, rfl, rfl⟩
  have hk := kinds h0 h3
  obtain ⟨k, hkr⟩ : ∃ k, 1 + r = k := ⟨_, rfl⟩
  have hk1 : 1 ≤ k := by omega
  have hk3 : k ≤ 3 := by omega
  rw [hkr] at hk
  have HK := Lib.hid hk
  obtain ⟨X, hX⟩ : ∃ X, A &&& allF k = X := ⟨_, rfl⟩
  obtain ⟨Y, hY⟩ : ∃ Y, B &&& allF k = Y := ⟨_, rfl⟩
  have kX := known_and HK.out A
  have kY := known_and HK.out B
  rw [hX] at kX
  rw [hY] at kY
  have b1 : bits .and .u64 (nu A) (nu (allF k)) = nu X := by rw [b_and, hX]
  have b2 : bits .and .u64 (nu B) (nu (allF k)) = nu Y := by rw [b_and, hY]
  clear hX hY
  obtain ⟨NX, hNX⟩ : ∃ N, needsF k X = N := ⟨_, rfl⟩
  obtain ⟨NY, hNY⟩ : ∃ N, needsF k Y = N := ⟨_, rfl⟩
  have fX := with_needs HK.out kX
  have fY := with_needs HK.out kY
  rw [hNX] at fX
  rw [hNY] at fY
  have b3 := b_or X NX
  have b4 := b_or Y NY
  have b5 := b_or (X ||| NX) (Y ||| NY)
  have b6 := b_and (X ||| NX) (Y ||| NY)
  have CO := Lib.hid ((closed_iff HK.out _).2 (cl_or fX fY))
  have CA := Lib.hid ((closed_iff HK.out _).2 (cl_and fX fY))
  have CX := Lib.hid ((closed_iff HK.out _).2 fX)
  have CY := Lib.hid ((closed_iff HK.out _).2 fY)
  have NO := Lib.hid (closed_knows CX.out)
  have CB := Lib.hid (show closedB k X = (NX == 0#64) by unfold closedB; rw [kX, hNX]; rfl)
  have b7 := nu_beq0 NX
  have b8 : (nu (0#64) != 0) = false := rfl
  have HNX := Lib.hid hNX
  have HNY := Lib.hid hNY
  have KX := Lib.hid kX
  have e9 : ((NX == 0#64) == (NX == 0#64)) = true := beq_self_eq_true _
  clear hk fX fY hNX hNY kX kY h0 h3
  go_wp2_with fail
  refine (all_any k _).mono ?_
  rintro eE W3 ⟨rfl, hg3⟩
  have hb3 : Below w.heap.size w W3 := (show Below w.heap.size w _ by go_grown).trans (hg3.mono (by first | omega | go_size))
  obtain ⟨hc3, hf3⟩ := bcell hg3
  have hs3 := hg3.size
  try simp only [World.size_alloc, World.size_setCell, World.size_drew] at hs3
  clear hg3 hc3 hf3
  go_wp2_with fail
  refine (all_any k _).mono ?_
  rintro eE W4 ⟨rfl, hg4⟩
  have hb4 : Below w.heap.size w W4 := (show Below w.heap.size w _ by go_grown).trans (hg4.mono (by first | omega | go_size))
  obtain ⟨hc4, hf4⟩ := bcell hg4
  have hs4 := hg4.size
  try simp only [World.size_alloc, World.size_setCell, World.size_drew] at hs4
  clear hg4 hc4 hf4
  go_wp2_with fail
  refine (needs_is k X NX HNX.out ad cap _ (HR.out.below (by go_grown))).mono ?_
  rintro eE W5 ⟨rfl, hg5⟩
  have hb5 : Below w.heap.size w W5 := (show Below w.heap.size w _ by go_grown).trans (hg5.mono (by first | omega | go_size))
  obtain ⟨hc5, hf5⟩ := bcell hg5
  have hs5 := hg5.size
  try simp only [World.size_alloc, World.size_setCell, World.size_drew] at hs5
  clear hg5 hc5 hf5
  go_wp2_with fail
  refine (needs_is k Y NY HNY.out ad cap _ (HR.out.below (by go_grown))).mono ?_
  rintro eE W6 ⟨rfl, hg6⟩
  have hb6 : Below w.heap.size w W6 := (show Below w.heap.size w _ by go_grown).trans (hg6.mono (by first | omega | go_size))
  obtain ⟨hc6, hf6⟩ := bcell hg6
  have hs6 := hg6.size
  try simp only [World.size_alloc, World.size_setCell, World.size_drew] at hs6
  clear hg6 hc6 hf6
  go_wp2_with fail
  refine (known_is k X true KX.out _).mono ?_
  rintro eE W7 ⟨rfl, hg7⟩
  have hb7 : Below w.heap.size w W7 := (show Below w.heap.size w _ by go_grown).trans (hg7.mono (by first | omega | go_size))
  obtain ⟨hc7, hf7⟩ := bcell hg7
  have hs7 := hg7.size
  try simp only [World.size_alloc, World.size_setCell, World.size_drew] at hs7
  clear hg7 hc7 hf7
  go_wp2_with fail
  refine (closed_is k _ true CX.out ad cap _ (HR.out.below (by go_grown))).mono ?_
  rintro eE W8 ⟨rfl, hg8⟩
  have hb8 : Below w.heap.size w W8 := (show Below w.heap.size w _ by go_grown).trans (hg8.mono (by first | omega | go_size))
  obtain ⟨hc8, hf8⟩ := bcell hg8
  have hs8 := hg8.size
  try simp only [World.size_alloc, World.size_setCell, World.size_drew] at hs8
  clear hg8 hc8 hf8
  go_wp2_with fail
  refine (closed_is k _ true CY.out ad cap _ (HR.out.below (by go_grown))).mono ?_
  rintro eE W9 ⟨rfl, hg9⟩
  have hb9 : Below w.heap.size w W9 := (show Below w.heap.size w _ by go_grown).trans (hg9.mono (by first | omega | go_size))
  obtain ⟨hc9, hf9⟩ := bcell hg9
  have hs9 := hg9.size
  try simp only [World.size_alloc, World.size_setCell, World.size_drew] at hs9
  clear hg9 hc9 hf9
  go_wp2_with fail
  refine (needs_is k _ (0#64) NO.out ad cap _ (HR.out.below (by go_grown))).mono ?_
  rintro eE W10 ⟨rfl, hg10⟩
  have hb10 : Below w.heap.size w W10 := (show Below w.heap.size w _ by go_grown).trans (hg10.mono (by first | omega | go_size))
  obtain ⟨hc10, hf10⟩ := bcell hg10
  have hs10 := hg10.size
  try simp only [World.size_alloc, World.size_setCell, World.size_drew] at hs10
  clear hg10 hc10 hf10
  go_wp2_with fail
  refine (closed_is k _ true CO.out ad cap _ (HR.out.below (by go_grown))).mono ?_
  rintro eE W11 ⟨rfl, hg11⟩
  have hb11 : Below w.heap.size w W11 := (show Below w.heap.size w _ by go_grown).trans (hg11.mono (by first | omega | go_size))
  obtain ⟨hc11, hf11⟩ := bcell hg11
  have hs11 := hg11.size
  try simp only [World.size_alloc, World.size_setCell, World.size_drew] at hs11
  clear hg11 hc11 hf11
  go_wp2_with fail
  refine (closed_is k _ true CA.out ad cap _ (HR.out.below (by go_grown))).mono ?_
  rintro eE W12 ⟨rfl, hg12⟩
  have hb12 : Below w.heap.size w W12 := (show Below w.heap.size w _ by go_grown).trans (hg12.mono (by first | omega | go_size))
  obtain ⟨hc12, hf12⟩ := bcell hg12
  have hs12 := hg12.size
  try simp only [World.size_alloc, World.size_setCell, World.size_drew] at hs12
  clear hg12 hc12 hf12
  go_wp2_with fail
  refine (closed_is k X _ CB.out ad cap _ (HR.out.below (by go_grown))).mono ?_
  rintro eE W13 ⟨rfl, hg13⟩
  have hb13 : Below w.heap.size w W13 := (show Below w.heap.size w _ by go_grown).trans (hg13.mono (by first | omega | go_size))
  obtain ⟨hc13, hf13⟩ := bcell hg13
  have hs13 := hg13.size
  try simp only [World.size_alloc, World.size_setCell, World.size_drew] at hs13
  clear hg13 hc13 hf13
  go_wp2_with fail
  refine (needs_is k X NX HNX.out ad cap _ (HR.out.below (by go_grown))).mono ?_
  rintro eE W14 ⟨rfl, hg14⟩
  have hb14 : Below w.heap.size w W14 := (show Below w.heap.size w _ by go_grown).trans (hg14.mono (by first | omega | go_size))
  obtain ⟨hc14, hf14⟩ := bcell hg14
  have hs14 := hg14.size
  try simp only [World.size_alloc, World.size_setCell, World.size_drew] at hs14
  clear hg14 hc14 hf14
  go_wp2_with fail
  go_ret
  exact ⟨rfl, by go_grown⟩

theorem walk (n a b : Int) (hn : (Lit.int .i64 n).wf = true) (ha : (Lit.int .u64 a).wf = true) (hb : (Lit.int .u64 b).wf = true) (w : World) (hG : Door.Given w) : Calls Tryd.prog 4 #[.int .i64 n, .int .u64 a, .int .u64 b] w (Lib.True1 w.heap.size w) := by
  obtain ⟨A, rfl⟩ := of_u64 ha
  obtain ⟨B, rfl⟩ := of_u64 hb
  exact walk' n A B w hn hG

set_option maxRecDepth 100000 in
theorem lifted (os : Os) (started : os.Started) (H : Type) (enc : TypeId × Value → H) :
    ReturnsInHanded {} Tryd.checked os 4 .any (fun w args => (Rows.featSetsSpec.pre enc Tryd.prog Tryd.f4 [] false w args ∧ laidMetH Tryd.prog Door.laidL w) ∧ sizedMet enc Tryd.prog Tryd.f4 (OpenSpec.ofChange Rows.featSetsSpec) false w args) (Rows.featSetsSpec.post enc Tryd.prog Tryd.f4 false true false false) := by
  refine LibD.lifted (C := Tryd.checked) (tb := 4) (laid := Door.laidL) H enc Lib.own started (by kernel_rfl) Tryd.func4
    (ChangeSpec.witness_shaped (enc := enc) (C := Tryd.checked) (os := os) (X := fun w _ => laidMetH Tryd.prog Door.laidL w) false (World.doorLaid Tryd.prog 400 os) #[.int .i64 0, .int .u64 0, .int .u64 0] 8 rfl (World.shaped_of_RefB (by kernel_rfl) (by kernel_rfl)) (by kernel_rfl) (by kernel_rfl) (by kernel_rfl) (Door.met os _))
    Lib.laidOut (Lib.readable_of (by kernel_rfl)) rfl Tryd.underlying4 rfl ?_ ?_
  · intro ds h
    match ds, h with
    | [_, _, _], _ => exact ⟨rfl, rfl, rfl⟩
  · intro W base args ds p hval hA hfz hlt hL
    rw [Tryd.params4] at hval
    have hA' : DataW.TrodAll enc Tryd.prog W 0 (fun _ => true) true Tryd.f4.params.toList args.toList ds p := hA
    rw [Tryd.params4] at hA'
    obtain ⟨v0, vs0, d0, ds0, p0, q0, hargs, rfl, rfl, h0, r0⟩ := trodAll_cons hA'
    obtain ⟨v1, vs1, d1, ds1, p1, q1, rfl, rfl, rfl, h1, r1⟩ := trodAll_cons r0
    obtain ⟨v2, vs2, d2, ds2, p2, q2, rfl, rfl, rfl, h2, r2⟩ := trodAll_cons r1
    obtain ⟨rfl, rfl, rfl⟩ := trodAll_nil r2
    obtain rfl : args = #[v0, v1, v2] := by cases args; simp_all
    obtain ⟨a0, rfl, rfl, rfl, w0⟩ := open_int Tryd.underlying3 (hval 0 3 v0 rfl rfl) h0
    obtain ⟨a1, rfl, rfl, rfl, w1⟩ := open_int Tryd.underlying22 (hval 1 22 v1 rfl rfl) h1
    obtain ⟨a2, rfl, rfl, rfl, w2⟩ := open_int Tryd.underlying22 (hval 2 22 v2 rfl rfl) h2
    exact walk a0 a1 a2 w0 w1 w2 W (Door.given hL)

theorem over : Rows.featSetsRow.holds Tryd.pinned (OpenSpec.ofChange Rows.featSetsSpec) :=
  OpenClaim.holds_of_wide 4 Tryd.f4 rfl rfl rfl rfl rfl rfl rfl ⟨rfl, rfl, rfl, rfl, rfl⟩ rfl rfl rfl rfl rfl (by kernel_rfl) Tryd.func4 (by kernel_rfl)
    (of_decide_eq_true (by kernel_rfl)) (by unfold Func.isWrapper; first | (rw [if_pos (by decide +kernel)]; kernel_rfl) | (rw [if_neg (by decide +kernel)]; exact ⟨rfl, rfl⟩))
    (fun os started H enc _ => lifted os started H enc)

/-- The statement. -/
theorem proved : Rows.FeatSetsCardSaid :=
  Claim7.holds_tied_plain_at .later [] Rows.featSetsCard.laidKinds true Rows.featSetsCard.stood.harness false
    over (fun _ h => by cases h) (by kernel_rfl) (fun _ h => by cases h) featSets_row_tie rfl ⟨rfl, rfl⟩ (by kernel_rfl) rfl
    (fun f fn hf hfn => by
      obtain rfl : f = 4 := Option.some.inj ((show Tryd.prog.funcNamed "dumbwaiter/dumbwaiterlaw06.FeatSets" = some 4 by kernel_rfl).symm.trans hf) |>.symm
      obtain rfl : fn = Tryd.f4 := (Option.some.inj (Tryd.func4.symm.trans hfn)).symm
      exact ⟨by kernel_rfl, LibD.no_stand (by kernel_rfl)⟩)
    (by kernel_rfl)

end Go.Proofs.YtkncaafjkoeijaaDoor.FeatSets
