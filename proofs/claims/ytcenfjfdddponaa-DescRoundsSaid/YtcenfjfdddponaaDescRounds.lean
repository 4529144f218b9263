/- The law DescRounds: what is available in a round is not used in any, and not available in the other one; Mark makes what it says. For every input; no condition. -/
import Derived.Test.YtcenfjfdddponaaDes
namespace Go.Proofs.Ytcenfjfdddponaa.DescRounds
open Go.ChangeShapes Go.WideShapes Go.ChangeAt Go.RowKit Des DesBits
set_option linter.unusedVariables false
set_option linter.unusedSimpArgs false

theorem avail_is (f : Int) (b x : Bool) (h : availB f b = x) (w : World) : Calls Try.prog 43 #[word f, .bool b] w fun e w' => e = .returned (.bool x) ∧ w = w' := h ▸ s_avail f b w
theorem used_is (f : Int) (b x : Bool) (h : usedB f b = x) (w : World) : Calls Try.prog 44 #[word f, .bool b] w fun e w' => e = .returned (.bool x) ∧ w = w' := h ▸ s_used f b w
theorem mark_is (f g : Int) (b u : Bool) (h : markI f b u = g) (w : World) : Calls Try.prog 63 #[word f, .bool b, .bool u] w fun e w' => e = .returned (word g) ∧ w = w' := h ▸ s_mark f b u w

set_option maxRecDepth 100000 in
set_option maxHeartbeats 40000000 in
theorem walk (f : Int) (b : Bool) (w0 : (Lit.int .u16 f).wf = true) (w : World) :
    Calls Try.prog 11 #[word f, .bool b] w (Lib.True1 w.heap.size w) := by
  unfold Lib.True1
  have hf := bounds_u16 w0
  obtain ⟨p, hp⟩ : ∃ x, markI f b false = x := ⟨_, rfl⟩
  obtain ⟨q, hq⟩ : ∃ x, markI f b true = x := ⟨_, rfl⟩
  have h1 := mark_has f hf b false
  have h2 := mark_has f hf b true
  have hm1 : markI p b true = q := by rw [← hp, mark_mark f hf, hq]
  have hm2 : markI q b false = p := by rw [← hq, mark_mark f hf, hp]
  have hr1 := mark_rest f hf b false
  have hr2 := mark_rest f hf b true
  rw [hp] at h1 hr1
  rw [hq] at h2 hr2
  obtain ⟨r, hr⟩ : ∃ x, bits .and .u16 f 32639 = x := ⟨_, rfl⟩
  rw [hr] at hr1 hr2
  obtain ⟨x, hx⟩ : ∃ x, hasB f 128 = x := ⟨_, rfl⟩
  obtain ⟨y, hy⟩ : ∃ y, hasB f 32768 = y := ⟨_, rfl⟩
  have HA : ∀ c, availB f c = ((x == c) && (y != c)) := fun c => by unfold availB; rw [hx, hy]
  have HU : ∀ c, usedB f c = ((x == c) && (y == c)) := fun c => by unfold usedB; rw [hx, hy]
  have PA : ∀ c, availB p c = ((b == c) && ((b == false) != c)) := fun c => by unfold availB; rw [h1.1, h1.2]
  have PU : ∀ c, usedB p c = ((b == c) && ((b == false) == c)) := fun c => by unfold usedB; rw [h1.1, h1.2]
  have QA : ∀ c, availB q c = ((b == c) && ((b == true) != c)) := fun c => by unfold availB; rw [h2.1, h2.2]
  have QU : ∀ c, usedB q c = ((b == c) && ((b == true) == c)) := fun c => by unfold usedB; rw [h2.1, h2.2]
  have a1 := Lib.hid (HA true)
  have a2 := Lib.hid (HA false)
  have a3 := Lib.hid (HU true)
  have a4 := Lib.hid (HU false)
  have b1 := Lib.hid (PA true)
  have b2 := Lib.hid (PA false)
  have b3 := Lib.hid (PU true)
  have b4 := Lib.hid (PU false)
  have c1 := Lib.hid (QA true)
  have c2 := Lib.hid (QA false)
  have c3 := Lib.hid (QU true)
  have c4 := Lib.hid (QU false)
  have Hp := Lib.hid hp
  have Hq := Lib.hid hq
  have Hm1 := Lib.hid hm1
  have Hm2 := Lib.hid hm2
  clear hx hy HA HU PA PU QA QU h1 h2 hp hq hm1 hm2 w0 hf
  cases b <;> cases x <;> cases y
  all_goals
    go_enter Try.func11, Try.ntmps11
    go_wp2_with fail
    refine (lives_any _).mono ?_
    rintro e w' ⟨rfl, hg⟩
    go_wp2_with (first
      | (go_at_call 63; (first | (with_reducible refine (mark_is f p _ _ Hp.out _).mono ?_) | (with_reducible refine (mark_is f q _ _ Hq.out _).mono ?_) | (with_reducible refine (mark_is p q _ _ Hm1.out _).mono ?_) | (with_reducible refine (mark_is q p _ _ Hm2.out _).mono ?_)); rintro e w' ⟨rfl, rfl⟩)
      | (go_at_call 43; (first | (with_reducible refine (avail_is f _ _ a1.out _).mono ?_) | (with_reducible refine (avail_is f _ _ a2.out _).mono ?_) | (with_reducible refine (avail_is p _ _ b1.out _).mono ?_) | (with_reducible refine (avail_is p _ _ b2.out _).mono ?_) | (with_reducible refine (avail_is q _ _ c1.out _).mono ?_) | (with_reducible refine (avail_is q _ _ c2.out _).mono ?_)); rintro e w' ⟨rfl, rfl⟩)
      | (go_at_call 44; (first | (with_reducible refine (used_is f _ _ a3.out _).mono ?_) | (with_reducible refine (used_is f _ _ a4.out _).mono ?_) | (with_reducible refine (used_is p _ _ b3.out _).mono ?_) | (with_reducible refine (used_is p _ _ b4.out _).mono ?_) | (with_reducible refine (used_is q _ _ c3.out _).mono ?_) | (with_reducible refine (used_is q _ _ c4.out _).mono ?_)); rintro e w' ⟨rfl, rfl⟩))
    go_ret
    exact ⟨rfl, hg⟩

set_option maxRecDepth 100000 in
theorem lifted (os : Os) (started : os.Started) (H : Type) (enc : TypeId × Value → H) :
    ReturnsInHanded {} Try.checked os 11 .any (Rows.descRoundsSpec.pre6 enc Try.prog Try.f11 Rows.descRoundsRow.domain false) (Rows.descRoundsSpec.post enc Try.prog Try.f11 false true false false) := by
  refine Lib.lifted (C := Try.checked) (tb := 4) H enc Lib.own started (by kernel_rfl) Try.func11
    (ChangeSpec.witness6 (enc := enc) (C := Try.checked) false ⟨#[], #[.int .u16 0, .bool false], []⟩ 8 (by kernel_rfl) (by kernel_rfl) (by kernel_rfl) (by kernel_rfl))
    Lib.laidOut (Lib.readable_of (by kernel_rfl)) rfl Try.underlying4 rfl ?_ ?_
  · intro ds h
    match ds, h with
    | [_, _], _ => exact ⟨rfl, rfl, rfl⟩
  · intro W base args ds p hval hA hfz hlt
    rw [Try.params11] at hval
    have hA' : DataW.TrodAll enc Try.prog W 0 (fun _ => true) true Try.f11.params.toList args.toList ds p := hA
    rw [Try.params11] at hA'
    obtain ⟨v0, vs0, d0, ds0, p0, q0, hargs, rfl, rfl, h0, r0⟩ := trodAll_cons hA'
    obtain ⟨v1, vs1, d1, ds1, p1, q1, rfl, rfl, rfl, h1, r1⟩ := trodAll_cons r0
    obtain ⟨rfl, rfl, rfl⟩ := trodAll_nil r1
    obtain rfl : args = #[v0, v1] := by cases args; simp_all
    obtain ⟨a0, rfl, rfl, rfl, w0⟩ := open_int Try.underlying61 (hval 0 61 v0 rfl rfl) h0
    obtain ⟨a1, rfl, rfl, rfl⟩ := open_bool Try.underlying4 (hval 1 4 v1 rfl rfl) h1
    exact walk a0 a1 w0 W

theorem over : Rows.descRoundsRow.holds Try.pinned (OpenSpec.ofChange Rows.descRoundsSpec) :=
  OpenClaim.holds_of_wide 11 Try.f11 rfl rfl rfl rfl rfl rfl rfl ⟨rfl, rfl, rfl, rfl, rfl⟩ rfl rfl rfl rfl rfl (by kernel_rfl) Try.func11 (by kernel_rfl)
    (of_decide_eq_true (by kernel_rfl)) (by unfold Func.isWrapper; first | (rw [if_pos (by decide +kernel)]; kernel_rfl) | (rw [if_neg (by decide +kernel)]; exact ⟨rfl, rfl⟩))
    (fun os started H enc _ => lifted os started H enc)

/-- The statement. -/
theorem proved : Rows.DescRoundsSaid :=
  over

end Go.Proofs.Ytcenfjfdddponaa.DescRounds
