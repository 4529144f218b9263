/- The law FeatNames: the chapter's examples. No input; the package's rules as the program's text lays them. -/
import Derived.Test.YtkncaafjkoeijaaDoorFeLives
import Derived.Test.YtkncaafjkoeijaaDoorCards
namespace Go.Proofs.YtkncaafjkoeijaaDoor.FeatNames
open Go.ChangeShapes Go.WideShapes Go.ChangeAt Go.RowKit Fe
set_option linter.unusedVariables false
set_option linter.unusedSimpArgs false

theorem with_64 (X : Set64) (b c : Nat) (w : World) (hb : b < w.heap.size) (h : w.cell? ⟨b, 0, none⟩ = some (num 64)) : Calls Tryd.prog 9 #[st X, .slice (some ⟨b, 0, none⟩) 1 c] w (Gives w.heap.size w (.tuple #[st 0#64, num 2])) := by
  unfold Gives
  have hb0 : Below w.heap.size w w := Below.refl _ _
  go_enter Tryd.func9, Tryd.ntmps9
  go_wp2_with fail
  refine wp_loop_rounds 1 ?_
  rw [rounds_succ]
  go_wp2_with fail
  refine (isBit_is 64 false (by decide) _).mono ?_
  rintro eE W1 ⟨rfl, hg1⟩
  have hb1 : Below w.heap.size w W1 := (show Below w.heap.size w _ by go_grown).trans (hg1.mono (by first | omega | go_size))
  obtain ⟨hc1, hf1⟩ := bcell hg1
  have hs1 := hg1.size
  try simp only [World.size_alloc, World.size_setCell, World.size_drew] at hs1
  clear hg1 hc1 hf1
  go_wp2_with fail
  go_returns
  exact ⟨rfl, by go_grown⟩
theorem row2 {w : World} {b : Nat} (hb : b < w.heap.size) (h0 : w.cell? ⟨b, 0, none⟩ = some (num 29)) (h1 : w.cell? ⟨b, 1, none⟩ = some (num 28)) : Rw.IsRow w w.heap.size 1 (some ⟨b, 0, none⟩) 2 (fun j => num ((if j = 0 then 29 else 28 : Nat) : Int)) := fun _ => ⟨_, rfl, hb, fun j hj => by
  have e : (⟨b, 0, none⟩ : Addr).add j = ⟨b, j, none⟩ := by unfold Addr.add; split <;> simp_all
  rw [e]
  match j, hj with
  | 0, _ => exact h0
  | 1, _ => exact h1⟩

set_option maxRecDepth 100000 in
set_option maxHeartbeats 4000000 in
theorem walk (w : World) (hG : Door.Given w) : Calls Tryd.prog 3 #[] w (Lib.True1 w.heap.size w) := by
  unfold Lib.True1
  obtain ⟨ad, cap, hR⟩ := hG
  have hb0 : Below w.heap.size w w := Below.refl _ _
  have HR := Lib.hid hR
  clear hR
  have e1 : bits .or .u64 (nu v1) (nu (131072#64)) = nu (4295098368#64) := by rw [b_or]; rfl
  have e2 : bits .or .u64 (nu (4295098368#64)) (nu (32#64)) = nu (4295098400#64) := by rw [b_or]; rfl
  have c := nu_beq (4295098400#64) (4295098400#64)
  have c2 : (4295098400#64 == 4295098400#64) = true := rfl
  have c3 : (nu (0#64) == 0) = true := rfl
  go_enter Tryd.func3, Tryd.ntmps3
  go_wp2_with fail
  refine (bit_is 32 v1 (by decide) (by decide) (by decide) _).mono ?_
  rintro eE W1 ⟨rfl, hg1⟩
  have hb1 : Below w.heap.size w W1 := (show Below w.heap.size w _ by go_grown).trans (hg1.mono (by first | omega | go_size))
  obtain ⟨hc1, hf1⟩ := bcell hg1
  have hs1 := hg1.size
  try simp only [World.size_alloc, World.size_setCell, World.size_drew] at hs1
  clear hg1 hc1 hf1
  go_wp2_with fail
  refine (best_no 0 v1 (0#64) (by decide +kernel) ad cap _ (HR.out.below (by go_grown))).mono ?_
  rintro eE W2 ⟨rfl, hg2⟩
  have hb2 : Below w.heap.size w W2 := (show Below w.heap.size w _ by go_grown).trans (hg2.mono (by first | omega | go_size))
  obtain ⟨hc2, hf2⟩ := bcell hg2
  have hs2 := hg2.size
  try simp only [World.size_alloc, World.size_setCell, World.size_drew] at hs2
  clear hg2 hc2 hf2
  go_wp2_with fail
  refine (best_no 2 (0#64) (0#64) (by decide +kernel) ad cap _ (HR.out.below (by go_grown))).mono ?_
  rintro eE W3 ⟨rfl, hg3⟩
  have hb3 : Below w.heap.size w W3 := (show Below w.heap.size w _ by go_grown).trans (hg3.mono (by first | omega | go_size))
  obtain ⟨hc3, hf3⟩ := bcell hg3
  have hs3 := hg3.size
  try simp only [World.size_alloc, World.size_setCell, World.size_drew] at hs3
  clear hg3 hc3 hf3
  go_wp2_with fail
  refine (with_64 (0#64) _ 1 _ (by go_size) (by go_cell)).mono ?_
  rintro eE W4 ⟨rfl, hg4⟩
  have hb4 : Below w.heap.size w W4 := (show Below w.heap.size w _ by go_grown).trans (hg4.mono (by first | omega | go_size))
  obtain ⟨hc4, hf4⟩ := bcell hg4
  have hs4 := hg4.size
  try simp only [World.size_alloc, World.size_setCell, World.size_drew] at hs4
  clear hg4 hc4 hf4
  go_wp2_with fail
  refine (with_is v1 _ 2 2 (fun j => if j = 0 then 29 else 28) _ (by decide) (fun j _ => by split <;> decide) (row2 (by go_size) (by go_cell) (by go_cell))).mono ?_
  rintro eE W5 ⟨rfl, hg5⟩
  have hb5 : Below w.heap.size w W5 := (show Below w.heap.size w _ by go_grown).trans (hg5.mono (by first | omega | go_size))
  obtain ⟨hc5, hf5⟩ := bcell hg5
  have hs5 := hg5.size
  try simp only [World.size_alloc, World.size_setCell, World.size_drew] at hs5
  clear hg5 hc5 hf5
  go_wp2_with fail
  have e5 : orAll v1 (fun j => if j = 0 then 29 else 28) 2 = 5100273664#64 := by decide
  rw [e5]
  go_wp2_with fail
  refine (lives_any ad cap _ (HR.out.below (by go_grown))).mono ?_
  rintro eE W6 ⟨rfl, hg6⟩
  have hb6 : Below w.heap.size w W6 := (show Below w.heap.size w _ by go_grown).trans (hg6.mono (by first | omega | go_size))
  obtain ⟨hc6, hf6⟩ := bcell hg6
  have hs6 := hg6.size
  try simp only [World.size_alloc, World.size_setCell, World.size_drew] at hs6
  clear hg6 hc6 hf6
  go_wp2_with fail
  refine (opts_is (5100273664#64) true true false (by decide +kernel) (by decide +kernel) (by decide +kernel) _).mono ?_
  rintro eE W7 ⟨rfl, hg7⟩
  have hb7 : Below w.heap.size w W7 := (show Below w.heap.size w _ by go_grown).trans (hg7.mono (by first | omega | go_size))
  obtain ⟨hc7, hf7⟩ := bcell hg7
  have hs7 := hg7.size
  try simp only [World.size_alloc, World.size_setCell, World.size_drew] at hs7
  clear hg7 hc7 hf7
  go_wp2_with fail
  refine (all_any 4 _).mono ?_
  rintro eE W8 ⟨rfl, hg8⟩
  have hb8 : Below w.heap.size w W8 := (show Below w.heap.size w _ by go_grown).trans (hg8.mono (by first | omega | go_size))
  obtain ⟨hc8, hf8⟩ := bcell hg8
  have hs8 := hg8.size
  try simp only [World.size_alloc, World.size_setCell, World.size_drew] at hs8
  clear hg8 hc8 hf8
  go_wp2_with fail
  refine (bit_is 17 131072#64 (by decide) (by decide) (by decide) _).mono ?_
  rintro eE W9 ⟨rfl, hg9⟩
  have hb9 : Below w.heap.size w W9 := (show Below w.heap.size w _ by go_grown).trans (hg9.mono (by first | omega | go_size))
  obtain ⟨hc9, hf9⟩ := bcell hg9
  have hs9 := hg9.size
  try simp only [World.size_alloc, World.size_setCell, World.size_drew] at hs9
  clear hg9 hc9 hf9
  go_wp2_with fail
  refine (known_is 2 (131072#64) false (by decide +kernel) _).mono ?_
  rintro eE W10 ⟨rfl, hg10⟩
  have hb10 : Below w.heap.size w W10 := (show Below w.heap.size w _ by go_grown).trans (hg10.mono (by first | omega | go_size))
  obtain ⟨hc10, hf10⟩ := bcell hg10
  have hs10 := hg10.size
  try simp only [World.size_alloc, World.size_setCell, World.size_drew] at hs10
  clear hg10 hc10 hf10
  go_wp2_with fail
  refine (bit_is 23 8388608#64 (by decide) (by decide) (by decide) _).mono ?_
  rintro eE W11 ⟨rfl, hg11⟩
  have hb11 : Below w.heap.size w W11 := (show Below w.heap.size w _ by go_grown).trans (hg11.mono (by first | omega | go_size))
  obtain ⟨hc11, hf11⟩ := bcell hg11
  have hs11 := hg11.size
  try simp only [World.size_alloc, World.size_setCell, World.size_drew] at hs11
  clear hg11 hc11 hf11
  go_wp2_with fail
  refine (needs_is 1 (8388608#64) (4295098400#64) (by decide +kernel) ad cap _ (HR.out.below (by go_grown))).mono ?_
  rintro eE W12 ⟨rfl, hg12⟩
  have hb12 : Below w.heap.size w W12 := (show Below w.heap.size w _ by go_grown).trans (hg12.mono (by first | omega | go_size))
  obtain ⟨hc12, hf12⟩ := bcell hg12
  have hs12 := hg12.size
  try simp only [World.size_alloc, World.size_setCell, World.size_drew] at hs12
  clear hg12 hc12 hf12
  go_wp2_with fail
  refine (bit_is 17 131072#64 (by decide) (by decide) (by decide) _).mono ?_
  rintro eE W13 ⟨rfl, hg13⟩
  have hb13 : Below w.heap.size w W13 := (show Below w.heap.size w _ by go_grown).trans (hg13.mono (by first | omega | go_size))
  obtain ⟨hc13, hf13⟩ := bcell hg13
  have hs13 := hg13.size
  try simp only [World.size_alloc, World.size_setCell, World.size_drew] at hs13
  clear hg13 hc13 hf13
  go_wp2_with fail
  refine (bit_is 5 32#64 (by decide) (by decide) (by decide) _).mono ?_
  rintro eE W14 ⟨rfl, hg14⟩
  have hb14 : Below w.heap.size w W14 := (show Below w.heap.size w _ by go_grown).trans (hg14.mono (by first | omega | go_size))
  obtain ⟨hc14, hf14⟩ := bcell hg14
  have hs14 := hg14.size
  try simp only [World.size_alloc, World.size_setCell, World.size_drew] at hs14
  clear hg14 hc14 hf14
  go_wp2_with fail
  refine (has_is (5100273664#64) 32 true (by decide +kernel) _).mono ?_
  rintro eE W15 ⟨rfl, hg15⟩
  have hb15 : Below w.heap.size w W15 := (show Below w.heap.size w _ by go_grown).trans (hg15.mono (by first | omega | go_size))
  obtain ⟨hc15, hf15⟩ := bcell hg15
  have hs15 := hg15.size
  try simp only [World.size_alloc, World.size_setCell, World.size_drew] at hs15
  clear hg15 hc15 hf15
  go_wp2_with fail
  refine (has_is (5100273664#64) (-1) false (by decide +kernel) _).mono ?_
  rintro eE W16 ⟨rfl, hg16⟩
  have hb16 : Below w.heap.size w W16 := (show Below w.heap.size w _ by go_grown).trans (hg16.mono (by first | omega | go_size))
  obtain ⟨hc16, hf16⟩ := bcell hg16
  have hs16 := hg16.size
  try simp only [World.size_alloc, World.size_setCell, World.size_drew] at hs16
  clear hg16 hc16 hf16
  go_wp2_with fail
  refine (has_is (5100273664#64) 64 false (by decide +kernel) _).mono ?_
  rintro eE W17 ⟨rfl, hg17⟩
  have hb17 : Below w.heap.size w W17 := (show Below w.heap.size w _ by go_grown).trans (hg17.mono (by first | omega | go_size))
  obtain ⟨hc17, hf17⟩ := bcell hg17
  have hs17 := hg17.size
  try simp only [World.size_alloc, World.size_setCell, World.size_drew] at hs17
  clear hg17 hc17 hf17
  go_wp2_with fail
  refine (closed_is 2 (0#64) false (by decide +kernel) ad cap _ (HR.out.below (by go_grown))).mono ?_
  rintro eE W18 ⟨rfl, hg18⟩
  have hb18 : Below w.heap.size w W18 := (show Below w.heap.size w _ by go_grown).trans (hg18.mono (by first | omega | go_size))
  obtain ⟨hc18, hf18⟩ := bcell hg18
  have hs18 := hg18.size
  try simp only [World.size_alloc, World.size_setCell, World.size_drew] at hs18
  clear hg18 hc18 hf18
  go_wp2_with fail
  go_ret
  exact ⟨rfl, by go_grown⟩

set_option maxRecDepth 100000 in
theorem lifted (os : Os) (started : os.Started) (H : Type) (enc : TypeId × Value → H) :
    ReturnsInHanded {} Tryd.checked os 3 .any (fun w args => (Rows.featNamesSpec.pre enc Tryd.prog Tryd.f3 [] false w args ∧ laidMetH Tryd.prog Door.laidL w) ∧ sizedMet enc Tryd.prog Tryd.f3 (OpenSpec.ofChange Rows.featNamesSpec) false w args) (Rows.featNamesSpec.post enc Tryd.prog Tryd.f3 false true false false) := by
  refine LibD.lifted (C := Tryd.checked) (tb := 4) (laid := Door.laidL) H enc Lib.own started (by kernel_rfl) Tryd.func3
    (ChangeSpec.witness_shaped (enc := enc) (C := Tryd.checked) (os := os) (X := fun w _ => laidMetH Tryd.prog Door.laidL w) false (World.doorLaid Tryd.prog 400 os) #[] 8 rfl (World.shaped_of_RefB (by kernel_rfl) (by kernel_rfl)) (by kernel_rfl) (by kernel_rfl) (by kernel_rfl) (Door.met os _))
    Lib.laidOut (Lib.readable_of (by kernel_rfl)) rfl Tryd.underlying4 rfl ?_ ?_
  · intro ds h
    match ds, h with
    | [], _ => exact ⟨rfl, rfl, rfl⟩
  · intro W base args ds p hval hA hfz hlt hL
    rw [Tryd.params3] at hval
    have hA' : DataW.TrodAll enc Tryd.prog W 0 (fun _ => true) true Tryd.f3.params.toList args.toList ds p := hA
    rw [Tryd.params3] at hA'
    obtain ⟨hargs, rfl, rfl⟩ := trodAll_nil hA'
    obtain rfl : args = #[] := by cases args; simp_all
    exact walk W (Door.given hL)

theorem over : Rows.featNamesRow.holds Tryd.pinned (OpenSpec.ofChange Rows.featNamesSpec) :=
  OpenClaim.holds_of_wide 3 Tryd.f3 rfl rfl rfl rfl rfl rfl rfl ⟨rfl, rfl, rfl, rfl, rfl⟩ rfl rfl rfl rfl rfl (by kernel_rfl) Tryd.func3 (by kernel_rfl)
    (of_decide_eq_true (by kernel_rfl)) (by unfold Func.isWrapper; first | (rw [if_pos (by decide +kernel)]; kernel_rfl) | (rw [if_neg (by decide +kernel)]; exact ⟨rfl, rfl⟩))
    (fun os started H enc _ => lifted os started H enc)

/-- The statement. -/
theorem proved : Rows.FeatNamesCardSaid :=
  Claim7.holds_tied_plain_at .later [] Rows.featNamesCard.laidKinds true Rows.featNamesCard.stood.harness false
    over (fun _ h => by cases h) (by kernel_rfl) (fun _ h => by cases h) featNames_row_tie rfl ⟨rfl, rfl⟩ (by kernel_rfl) rfl
    (fun f fn hf hfn => by
      obtain rfl : f = 3 := Option.some.inj ((show Tryd.prog.funcNamed "dumbwaiter/dumbwaiterlaw06.FeatNames" = some 3 by kernel_rfl).symm.trans hf) |>.symm
      obtain rfl : fn = Tryd.f3 := (Option.some.inj (Tryd.func3.symm.trans hfn)).symm
      exact ⟨by kernel_rfl, LibD.no_stand (by kernel_rfl)⟩)
    (by kernel_rfl)

end Go.Proofs.YtkncaafjkoeijaaDoor.FeatNames
