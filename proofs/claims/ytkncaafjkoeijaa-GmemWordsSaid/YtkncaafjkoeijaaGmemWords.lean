/- The law GmemWords: a word is its bytes, little-endian, whatever widths it is stored and loaded with. For every input; no condition. -/
import Derived.Test.YtkncaafjkoeijaaEngZ
import Derived.Test.YtkncaafjkoeijaaGmMm
import Derived.Test.YtkncaafjkoeijaaGmWordsR
import Derived.Test.YtkncaafjkoeijaaPick
import Derived.Test.YtkncaafjkoeijaaHeld
import Derived.Deep.DeepCutAuto
import Derived.Deep.RegionWith
namespace Go.Proofs.Ytkncaafjkoeijaa.GmemWords
open Go.ChangeShapes Go.WideShapes Go.ChangeAt Go.RowKit Rw Le GmFind GmLoad GmWrite GmMm GmWordsM
set_option linter.unusedVariables false
set_option linter.unusedSimpArgs false

theorem envOk : (Eng.Env.of Try.prog).Ok := Eng.Env.of_ok _ (by kernel_rfl) (by kernel_rfl)
theorem lives_run : Eng.isTrue (Eng.runL (Eng.Env.of Try.prog) 100000 10 []) = true := by kernel_rfl
theorem lives_any (w : World) : Calls Try.prog 10 #[] w (Lib.True1 w.heap.size w) := Eng.runs envOk lives_run w

abbrev num (n : Int) : Value := .int .i64 n
/-- The bytes behind the first store. -/
def g1 (q : Nat) (v : Int) (j : Nat) : Int := if q ≤ j ∧ j < q + 8 then byteI v (j - q) else 0
/-- Behind the second. -/
def g2 (q n : Nat) (v u : Int) (j : Nat) : Int := if q ≤ j ∧ j < q + n then byteI u (j - q) else g1 q v j
theorem g1_lo (q : Nat) (v : Int) (j : Nat) : 0 ≤ g1 q v j ∧ g1 q v j ≤ 255 := by unfold g1; split; exact byte_lo _ _; omega
theorem g2_lo (q n : Nat) (v u : Int) (j : Nat) : 0 ≤ g2 q n v u j ∧ g2 q n v u j ≤ 255 := by unfold g2; split; exact byte_lo _ _; exact g1_lo _ _ _
theorem st1 (q : Nat) (v : Int) (j : Nat) : stF (fun _ => .int .u8 0) q 8 v j = .int .u8 (g1 q v j) := by unfold stF g1; split <;> rfl
theorem st2 (q n : Nat) (v u : Int) (j : Nat) : stF (fun j => .int .u8 (g1 q v j)) q n u j = .int .u8 (g2 q n v u j) := by unfold stF g2; split <;> rfl

set_option maxRecDepth 100000 in
set_option maxHeartbeats 20000000 in
theorem walk (at_ v u width : Int) (hat : (Lit.int .i64 at_).wf = true) (hv : (Lit.int .u64 v).wf = true) (hu : (Lit.int .u64 u).wf = true) (hw : (Lit.int .i64 width).wf = true) (w : World) :
    Calls Try.prog 5 #[num at_, .int .u64 v, .int .u64 u, num width] w (Lib.True1 w.heap.size w) := by
  unfold Lib.True1
  have hb0 : Below w.heap.size w w := Below.refl _ _
  have HAT := Lib.hid hat
  have HW := Lib.hid hw
  have HV := Lib.hid (bounds_u64 hv)
  have HU := Lib.hid (bounds_u64 hu)
  clear hat hw hv hu
  go_enter Try.func5, Try.ntmps5
  go_wp2_with fail
  refine (lives_any _).mono ?_
  rintro eE W1 ⟨rfl, hg1⟩
  have hb1 : Below w.heap.size w W1 := (show Below w.heap.size w _ by go_grown).trans (hg1.mono (by first | omega | go_size))
  obtain ⟨hc1, hf1⟩ := bcell hg1
  have hs1 := hg1.size
  try simp only [World.size_alloc, World.size_setCell, World.size_drew] at hs1
  clear hg1 hc1 hf1
  go_wp2_with fail
  refine (new64 W1.heap.size 1 _ (by go_cell) (by go_cell) (by go_size)).mono ?_
  rintro e W2 ⟨m, ga, b3, c2, c3, A2, rfl, hM, hrow, hfr, hg2⟩
  have HM := Lib.hid hM
  have HR := Lib.hid hrow
  have hfr' : W1.heap.size ≤ b3 := by rw [World.size_alloc] at hfr; omega
  clear hM hrow hfr
  have hb2 : Below w.heap.size w W2 := (show Below w.heap.size w _ by go_grown).trans (hg2.mono (by first | omega | go_size))
  obtain ⟨hc2, hf2⟩ := bcell hg2
  have hs2 := hg2.size
  try simp only [World.size_alloc, World.size_setCell, World.size_drew] at hs2
  clear hg2 hc2 hf2
  go_wp2_with fail
  refine (Pick.pick_some at_ 57 (by decide) HAT.out _).mono ?_
  rintro e W3 ⟨qq, k0, k57, rfl, rfl⟩
  obtain ⟨q, rfl⟩ := Int.eq_ofNat_of_zero_le k0
  have hq : q < 57 := by omega
  clear k0 k57
  have i1 : IntKind.u64.wrap ((q : Nat) : Int) = (q : Int) := by rw [IntKind.wrap_u64]; omega
  go_upto_region 7 with fail
  go_cut [12] (fun s wx => ∃ n : Nat, s = num n ∧ (n = 1 ∨ n = 2 ∨ n = 4) ∧ Below W2.heap.size W2 wx)
  case first =>
    go_wp2_with fail
    refine (Pick.pick_some width 3 (by decide) HW.out _).mono ?_
    rintro e W4 ⟨p, p0, p3, rfl, rfl⟩
    rcases (show p = 0 ∨ p = 1 ∨ p = 2 from by omega) with rfl | rfl | rfl
    all_goals (go_wp2_with fail)
    all_goals go_meet
    · exact ⟨1, rfl, by decide, by go_grown⟩
    · exact ⟨2, rfl, by decide, by go_grown⟩
    · exact ⟨4, rfl, by decide, by go_grown⟩
  case rest =>
  obtain ⟨n, rfl, hn, hbc⟩ := hcut
  have hb4 : Below w.heap.size w wc := hb2.trans (hbc.mono hb2.size)
  have hs4 := hb4.size
  have HM4 := Lib.hid (HM.out.below hbc)
  have HR4 := Lib.hid (HR.out.of_block (hbc.block b3 HR.out.lt))
  have hbs : w.heap.size ≤ b3 := by omega
  go_wp2_with fail
  refine (store64 q 8 v _ HM4.out HR4.out HV.out (by decide) (by omega)).mono ?_
  rintro e W5 ⟨rfl, hr5, hg5⟩
  have hb5 : Below w.heap.size w W5 := hb4.grown hg5 hs4 (fun b e => by cases e; exact hbs)
  have HM5 := Lib.hid (HM4.out.only hg5)
  have HR5 := Lib.hid (hr5.congr fun j _ => st1 q v j)
  clear hr5 hg5
  have hn0 : 1 ≤ n ∧ n ≤ 4 := by omega
  have i2 : IntKind.i64.wrap (8 - (n : Int)) = ((8 - n : Nat) : Int) := by rw [IntKind.wrap_i64]; omega
  have i3 : IntKind.i64.wrap (8 * (n : Int)) = ((8 * n : Nat) : Int) := by rw [IntKind.wrap_i64]; omega
  have i4 : IntKind.u64.wrap ((8 * n : Nat) : Int) = ((8 * n : Nat) : Int) := by rw [IntKind.wrap_u64]; omega
  have i5 : (((8 * n : Nat) : Int)).toNat = 8 * n := Int.toNat_natCast _
  go_wp2_with fail
  go_loopw [13, 14] (fun b s wr => ∃ r t : Nat, r ≤ 8 ∧ r = n * t ∧ s = num ((r : Int) - n) ∧ b = .int .u64 (v / 2 ^ (8 * r)) ∧ Below W5.heap.size W5 wr) (fun b s wr => (8 + intOf s).toNat)
  case atStart =>
    have hv := HV.out
    have h64 : (2 : Int) ^ (8 * 8) = 18446744073709551616 := by decide
    have hz : (0 : Int) = v / 2 ^ (8 * 8) := by rw [h64, Int.ediv_eq_zero_of_lt (by omega) (by omega)]
    rcases hn with rfl | rfl | rfl
    · exact ⟨8, 8, by omega, by omega, by rfl, by rw [← hz], Below.refl _ _⟩
    · exact ⟨8, 4, by omega, by omega, by rfl, by rw [← hz], Below.refl _ _⟩
    · exact ⟨8, 2, by omega, by omega, by rfl, by rw [← hz], Below.refl _ _⟩
  case round =>
    obtain ⟨r, t, hr8, hrt, rfl, rfl, hb⟩ := hrel
    have hszr := hb.size
    have hM := HM5.out.below hb
    have hR := HR5.out.of_block (hb.block b3 HR5.out.lt)
    have hv := HV.out
    by_cases ht : t = 0
    · subst ht
      have hr0 : r = 0 := by rw [hrt, Nat.mul_zero]
      subst hr0
      have hvv : v / 2 ^ (8 * 0) = v := by rw [Nat.mul_zero]; exact Int.ediv_one v
      rw [hvv]
      have hd : decide (0 ≤ ((0 : Nat) : Int) - (n : Int)) = false := decide_eq_false (by omega)
      have hvx : (v != v) = false := by simp
      have HM6 := Lib.hid hM
      have HR6 := Lib.hid hR
      have e9 : IntKind.u64.wrap (IntKind.u64.wrap ((2 : Int) ^ (8 * n)) - 1) = 2 ^ (8 * n) - 1 := by
        have h1 := pow_pos n
        have h2 : (2 : Int) ^ (8 * n) ≤ 2 ^ (8 * 4) := pow_le8 (by omega)
        have h3 : (2 : Int) ^ (8 * 4) = 4294967296 := by decide
        have e0 : IntKind.u64.wrap ((2 : Int) ^ (8 * n)) = 2 ^ (8 * n) := by
          rw [IntKind.wrap_u64]
          exact Int.emod_eq_of_lt (by omega) (by omega)
        rw [e0, IntKind.wrap_u64]
        exact Int.emod_eq_of_lt (by omega) (by omega)
      have f3 : bits .or .u64 (bits .andNot .u64 v (2 ^ (8 * n) - 1)) (bits .and .u64 u (2 ^ (8 * n) - 1)) = wordI (fun s => g2 q n v u (q + s)) 8 := by
        rw [masked HV.out HU.out (by omega) rfl]
        refine (word_congr fun s hs => ?_).symm
        unfold g2 g1
        by_cases hsn : s < n
        · rw [if_pos (by omega), if_pos hsn]; congr 1; omega
        · rw [if_neg (by omega), if_neg hsn, if_pos (by omega)]; congr 1; omega
      obtain ⟨M, hMM⟩ : ∃ M, (2 : Int) ^ (8 * n) - 1 = M := ⟨_, rfl⟩
      obtain ⟨X8, hX8⟩ : ∃ X, wordI (fun s => g2 q n v u (q + s)) 8 = X := ⟨_, rfl⟩
      rw [hMM] at e9 f3
      rw [hX8] at f3
      have H8 := Lib.hid hX8
      have hxx : (X8 != X8) = false := by simp
      have hbr : Below w.heap.size w wr := hb5.trans (hb.mono (by have := hb5.size; omega))
      have hszw := hbr.size
      clear hM hR hrt hvv hMM hX8
      go_wp2_with fail
      refine (store64 q n u _ HM6.out HR6.out HU.out (by omega) (by omega)).mono ?_
      rintro e W7 ⟨rfl, hr7, hg7⟩
      have hb7 : Below w.heap.size w W7 := hbr.grown hg7 hszw (fun b e => by cases e; exact hbs)
      have HM7 := Lib.hid (HM6.out.only hg7)
      have HR7 := Lib.hid (hr7.congr fun j _ => st2 q n v u j)
      have hs7 := hb7.size
      clear hr7 hg7
      go_wp2_with fail
      have HL8 := Lib.hid (load64 q 8 (g2 q n v u) HM7.out HR7.out (fun j _ => g2_lo q n v u j) (by decide) (by omega))
      rw [H8.out] at HL8
      refine HL8.out.mono ?_
      rintro e W8 ⟨rfl, hg8⟩
      have HM8 := Lib.hid (HM7.out.below hg8)
      have HR8 := Lib.hid (HR7.out.of_block (hg8.block b3 HR7.out.lt))
      have hb8 : Below w.heap.size w W8 := hb7.trans (hg8.mono hs7)
      have hs8 := hb8.size
      clear hg8
      go_wp2_with fail
      refine (read64 q 8 (g2 q n v u) HM8.out HR8.out (by decide) (by omega)).mono ?_
      rintro e W9 ⟨bb, rfl, hbb, hr9, hg9⟩
      have HM9 := Lib.hid (HM8.out.below hg9)
      have HR9 := Lib.hid (HR8.out.of_block (hg9.block b3 HR8.out.lt))
      have HB9 := Lib.hid hr9
      have hb9 : Below w.heap.size w W9 := hb8.trans (hg9.mono hs8)
      have hs9 := hb9.size
      have hne : bb ≠ b3 := by have := HR8.out.lt; omega
      have hwb : w.heap.size ≤ bb := by omega
      clear hg9 hr9
      go_wp2_with fail
      clear f3 e9
      go_loopw [21] (fun s wx => ∃ j : Nat, j ≤ 8 ∧ s = num j ∧ Below W9.heap.size W9 wx) (fun s wx => 8 - (intOf s).toNat)
      case atStart => exact ⟨0, by omega, rfl, Below.refl _ _⟩
      case round =>
        obtain ⟨j, hj, rfl, hbj⟩ := hrel
        have hszj := hbj.size
        by_cases hj8 : j < 8
        · have cj : wr.cell? ⟨bb, j, none⟩ = some (.int .u8 (g2 q n v u (q + j))) := (hbj.cell (p := ⟨bb, j, none⟩) HB9.out.lt).trans (HB9.out.cell hj8)
          have j1 : IntKind.i64.wrap (8 * (j : Int)) = ((8 * j : Nat) : Int) := by rw [IntKind.wrap_i64]; omega
          have j2 : IntKind.u64.wrap ((8 * j : Nat) : Int) = ((8 * j : Nat) : Int) := by rw [IntKind.wrap_u64]; omega
          have j3 : (((8 * j : Nat) : Int)).toNat = 8 * j := Int.toNat_natCast _
          have j4 : IntKind.u8.wrap (X8 / 2 ^ (8 * j)) = g2 q n v u (q + j) := by
            have := byte_word (g := fun s => g2 q n v u (q + s)) (n := 8) (fun s _ => g2_lo _ _ _ _ _) j hj8
            rw [H8.out] at this
            rw [IntKind.wrap_u8']
            exact this
          obtain ⟨Y, hY⟩ : ∃ Y, g2 q n v u (q + j) = Y := ⟨_, rfl⟩
          rw [hY] at cj j4
          have j5 : (Y != Y) = false := by simp
          clear hY
          go_wp2_with fail
          go_roundw
          case rel => exact ⟨j + 1, by omega, by go_num, hbj⟩
          case measure => simp [intOf]; omega
        · obtain rfl : j = 8 := by omega
          have hCl : GmWordsR.Cl w m ga b3 c2 c3 bb q A2 (g2 q n v u) wr := ⟨hb9.trans (hbj.mono hs9), HM9.out.below hbj, .inl (HR9.out.of_block (hbj.block b3 HR9.out.lt)), HB9.out.of_block (hbj.block bb HB9.out.lt), hne, hbs⟩
          have HCl := Lib.hid hCl
          clear hCl
          go_wp2_with fail
          refine AsrtG.to_ops (id := 30) (ops := GmWordsR.OPS) (by kernel_rfl) ?_
          refine AsrtG.wp_region_assert (G := AsrtG.GR b3 c3 (GmWordsR.g3 (g2 q n v u) q)) AsrtG.gr_refl AsrtG.gr_trans AsrtG.gr_drew (by kernel_rfl) (by kernel_rfl) (GmWordsR.Cl w m ga b3 c2 c3 bb q A2 (g2 q n v u)) (GmWordsR.TL m b3 c3 bb q (g2 q n v u)) (HCl.out.below (Below.refl _ _).drew) (by kernel_rfl) (by kernel_rfl)
            (GmWordsR.obs w m ga b3 c2 c3 bb q A2 (g2 q n v u) hq (fun j hj => by unfold g2 g1; rw [if_neg (by omega), if_neg (by omega)]) (by rw [IntKind.wrap_u64]; omega) _ (fun _ _ => rfl) (fun _ _ => rfl) (fun _ _ => rfl) (fun _ _ => rfl) (fun _ _ => rfl) (fun _ _ => rfl) (fun _ _ => rfl) (fun _ _ => rfl) (fun _ _ => rfl) (fun _ _ => rfl) (fun _ _ => rfl) (fun _ _ => rfl) (fun _ _ => rfl) (fun _ _ => rfl) (fun _ _ => rfl) (fun _ _ => rfl) (fun _ _ => rfl) (fun _ _ => rfl) (fun _ _ => rfl) (fun _ _ => rfl) (fun _ _ => rfl) (fun _ _ => rfl) (fun _ _ => rfl) (fun _ _ => rfl) (fun _ _ => rfl) (fun _ _ => rfl)) ?_
          intro a30 w30 hC30 hB30 hs30 hd30 hT30 hU30
          have e8 : a30.tmps.getD 8 undef = .bool true := hT30 8 _ rfl
          rename_i K hK
          refine hK _ _ (wp_ret ?_)
          refine bodyPost_ret (results_tmp rfl _ _ _) hd30 ?_
          rw [e8]
          exact ⟨rfl, hC30.bel⟩
    · have hrn : n ≤ r := by
        rw [hrt]
        exact Nat.le_mul_of_pos_right n (by omega)
      have hr' : r - n = n * (t - 1) := by
        rw [hrt, Nat.mul_sub, Nat.mul_one]
      have hd : decide (0 ≤ (r : Int) - (n : Int)) = true := decide_eq_true (by omega)
      have i6 : IntKind.u64.wrap ((r : Int) - n) = ((r - n : Nat) : Int) := by rw [IntKind.wrap_u64]; omega
      obtain ⟨X, hX⟩ : ∃ X, wordI (fun s => g1 q v (q + (r - n) + s)) n = X := ⟨_, rfl⟩
      have hXv : X = v / 2 ^ (8 * (r - n)) % 2 ^ (8 * n) := by
        rw [← hX, word_congr (h := fun s => byteI v (r - n + s)) (fun s hs => by unfold g1; rw [if_pos (by omega)]; congr 1; omega), word_shift v hv.1]
      have hLd : Calls Try.prog 18 #[.pointer (some ⟨m, 0, none⟩), .int .u64 (1000 + (q : Int) + ((r - n : Nat) : Int)), .int .i64 n] wr (GmWord.Gives wr.heap.size wr (.tuple #[.int .u64 X, .int .i64 0])) := by
        rw [show (1000 : Int) + (q : Int) + ((r - n : Nat) : Int) = 1000 + ((q + (r - n) : Nat) : Int) from by omega, ← hX]
        exact load64 (q + (r - n)) n (g1 q v) hM hR (fun j _ => g1_lo q v j) (by omega) (by omega)
      have hp := pow_pos n
      have hX0 : 0 ≤ X := by rw [hXv]; exact Int.emod_nonneg _ (by omega)
      have hX1 : X < 2 ^ (8 * n) := by rw [hXv]; exact Int.emod_lt_of_pos _ hp
      have f1 : X / 2 ^ (8 * n) = 0 := Int.ediv_eq_zero_of_lt hX0 hX1
      have hst := GmWordsM.step v (r - n) n
      rw [show r - n + n = r from by omega, ← hXv] at hst
      have hq0 : v / 2 ^ (8 * (r - n)) ≤ v := Int.ediv_le_self _ hv.1
      have f2 : bits .or .u64 (IntKind.u64.wrap (v / 2 ^ (8 * r) * 2 ^ (8 * n))) X = v / 2 ^ (8 * (r - n)) := by
        rw [or_parts (Int.ediv_nonneg hv.1 (Int.le_of_lt (pow_pos r))) hX0 hX1 (by rw [hst]; omega), hst]
      obtain ⟨B, hB⟩ : ∃ B, v / 2 ^ (8 * r) = B := ⟨_, rfl⟩
      rw [hB] at f2 ⊢
      have HL := Lib.hid hLd
      have H2 := Lib.hid (And.intro hr' hrn)
      clear hM hR hXv hLd hX0 hX1 hst hq0 hB hX hp hr' hrt
      go_wp2_with fail
      refine HL.out.mono ?_
      rintro e W6 ⟨rfl, hg6⟩
      have hb6 := hb.trans (hg6.mono hszr)
      clear hg6 HL
      go_wp2_with fail
      go_roundw
      case rel => exact ⟨r - n, t - 1, by omega, H2.out.1, by go_num, rfl, hb6⟩
      case measure => simp [intOf]; omega

set_option maxRecDepth 100000 in
theorem lifted (os : Os) (started : os.Started) (H : Type) (enc : TypeId × Value → H) :
    ReturnsInHanded {} Try.checked os 5 .any (Rows.gmemWordsSpec.pre6 enc Try.prog Try.f5 Rows.gmemWordsRow.domain false) (Rows.gmemWordsSpec.post enc Try.prog Try.f5 false true false false) := by
  refine Lib.lifted (C := Try.checked) (tb := 4) H enc Lib.own started (by kernel_rfl) Try.func5
    (ChangeSpec.witness6 (enc := enc) (C := Try.checked) false ⟨#[], #[.int .i64 0, .int .u64 0, .int .u64 0, .int .i64 0], []⟩ 8 (by kernel_rfl) (by kernel_rfl) (by kernel_rfl) (by kernel_rfl))
    Lib.laidOut (Lib.readable_of (by kernel_rfl)) rfl Try.underlying4 rfl ?_ ?_
  · intro ds h
    match ds, h with
    | [_, _, _, _], _ => exact ⟨rfl, rfl, rfl⟩
  · intro W base args ds p hval hA hfz hlt
    rw [Try.params5] at hval
    have hA' : DataW.TrodAll enc Try.prog W 0 (fun _ => true) true Try.f5.params.toList args.toList ds p := hA
    rw [Try.params5] at hA'
    obtain ⟨v0, vs0, d0, ds0, p0, q0, hargs, rfl, rfl, h0, r0⟩ := trodAll_cons hA'
    obtain ⟨v1, vs1, d1, ds1, p1, q1, rfl, rfl, rfl, h1, r1⟩ := trodAll_cons r0
    obtain ⟨v2, vs2, d2, ds2, p2, q2, rfl, rfl, rfl, h2, r2⟩ := trodAll_cons r1
    obtain ⟨v3, vs3, d3, ds3, p3, q3, rfl, rfl, rfl, h3, r3⟩ := trodAll_cons r2
    obtain ⟨rfl, rfl, rfl⟩ := trodAll_nil r3
    obtain rfl : args = #[v0, v1, v2, v3] := by cases args; simp_all
    obtain ⟨a0, rfl, rfl, rfl, w0⟩ := open_int Try.underlying3 (hval 0 3 v0 rfl rfl) h0
    obtain ⟨a1, rfl, rfl, rfl, w1⟩ := open_int Try.underlying26 (hval 1 26 v1 rfl rfl) h1
    obtain ⟨a2, rfl, rfl, rfl, w2⟩ := open_int Try.underlying26 (hval 2 26 v2 rfl rfl) h2
    obtain ⟨a3, rfl, rfl, rfl, w3⟩ := open_int Try.underlying3 (hval 3 3 v3 rfl rfl) h3
    exact walk a0 a1 a2 a3 w0 w1 w2 w3 W

theorem over : Rows.gmemWordsRow.holds Try.pinned (OpenSpec.ofChange Rows.gmemWordsSpec) :=
  OpenClaim.holds_of_wide 5 Try.f5 rfl rfl rfl rfl rfl rfl rfl ⟨rfl, rfl, rfl, rfl, rfl⟩ rfl rfl rfl rfl rfl (by kernel_rfl) Try.func5 (by kernel_rfl)
    (of_decide_eq_true (by kernel_rfl)) (by unfold Func.isWrapper; first | (rw [if_pos (by decide +kernel)]; kernel_rfl) | (rw [if_neg (by decide +kernel)]; exact ⟨rfl, rfl⟩))
    (fun os started H enc _ => lifted os started H enc)

/-- The statement. -/
theorem proved : Rows.GmemWordsSaid :=
  over

end Go.Proofs.Ytkncaafjkoeijaa.GmemWords
