/- The law SegBoth: what is read from a buffer and what is written into it are disjoint; Gather of parts is Gather of the whole. For every input; no condition. -/
import Derived.Test.YtohopmccggggbaaSgOne
namespace Go.Proofs.Ytohopmccggggbaa.SegBoth
open Go.ChangeShapes Go.WideShapes Go.ChangeAt Go.RowKit Rw Sg SgCheck SgTake SgTotal SgCut SgMath SgIn SgScat SgConcat SgJoin SgArgs SgGath SgOne GmFind GmWord GmRead GmWrite GmLoad
set_option linter.unusedVariables false
set_option linter.unusedSimpArgs false

set_option maxRecDepth 100000 in
set_option maxHeartbeats 4000000 in
theorem walk_many (A : Option Addr) (c : Nat) (l : List S3) (v : Value) (q : Int) (w : World) (h : 100 < l.length) (h2 : l.length ≤ 9223372036854775807) : Calls Try.prog 13 #[.slice A l.length c, v, .int .u64 q] w (Lib.True1 w.heap.size w) := by
  unfold Lib.True1
  have hb0 : Below w.heap.size w w := Below.refl _ _
  have h1 : decide ((100 : Int) < (l.length : Int)) = true := decide_eq_true (by omega)
  clear h
  go_enter Try.func13, Try.ntmps13
  go_wp2_with fail
  refine (SgLives.lives_any _).mono ?_
  rintro eE W1 ⟨rfl, hg1⟩
  have hb1 : Below w.heap.size w W1 := (show Below w.heap.size w _ by go_grown).trans (hg1.mono (by first | omega | go_size))
  obtain ⟨hc1, hf1⟩ := bcell hg1
  have hs1 := hg1.size
  try simp only [World.size_alloc, World.size_setCell, World.size_drew] at hs1
  clear hg1 hc1 hf1
  go_wp2_with fail
  go_ret
  exact ⟨rfl, by go_grown⟩

set_option maxRecDepth 100000 in
set_option maxHeartbeats 4000000 in
theorem walk_long (A AB : Option Addr) (c n cb : Nat) (l : List S3) (q : Int) (w : World) (h : l.length ≤ 100) (hn : 2000 < n) (hn2 : n ≤ 9223372036854775807) : Calls Try.prog 13 #[.slice A l.length c, .slice AB n cb, .int .u64 q] w (Lib.True1 w.heap.size w) := by
  unfold Lib.True1
  have hb0 : Below w.heap.size w w := Below.refl _ _
  have h1 : decide ((100 : Int) < (l.length : Int)) = false := decide_eq_false (by omega)
  have h2 : decide ((2000 : Int) < (n : Int)) = true := decide_eq_true (by omega)
  clear hn
  go_enter Try.func13, Try.ntmps13
  go_wp2_with fail
  refine (SgLives.lives_any _).mono ?_
  rintro eE W1 ⟨rfl, hg1⟩
  have hb1 : Below w.heap.size w W1 := (show Below w.heap.size w _ by go_grown).trans (hg1.mono (by first | omega | go_size))
  obtain ⟨hc1, hf1⟩ := bcell hg1
  have hs1 := hg1.size
  try simp only [World.size_alloc, World.size_setCell, World.size_drew] at hs1
  clear hg1 hc1 hf1
  go_wp2_with fail
  go_ret
  exact ⟨rfl, by go_grown⟩

set_option maxRecDepth 100000 in
set_option maxHeartbeats 4000000 in
theorem walk_bad (A AB : Option Addr) (c n cb : Nat) (l : List S3) (q : Int) (w : World) (h : l.length ≤ 100) (hn : n ≤ 2000) (hraw : ∀ x ∈ l, x.Raw) (hl : Lst w w.heap.size A l) (hk : checkL l ≠ 0) : Calls Try.prog 13 #[.slice A l.length c, .slice AB n cb, .int .u64 q] w (Lib.True1 w.heap.size w) := by
  unfold Lib.True1
  have hb0 : Below w.heap.size w w := Below.refl _ _
  have h1 : decide ((100 : Int) < (l.length : Int)) = false := decide_eq_false (by omega)
  have h2 : decide ((2000 : Int) < (n : Int)) = false := decide_eq_false (by omega)
  have h3 : (checkL l == 0) = false := by simp [hk]
  have HL := Lib.hid hl
  have HW := Lib.hid hraw
  clear hl hraw hk hn
  go_enter Try.func13, Try.ntmps13
  go_wp2_with fail
  refine (SgLives.lives_any _).mono ?_
  rintro eE W1 ⟨rfl, hg1⟩
  have hb1 : Below w.heap.size w W1 := (show Below w.heap.size w _ by go_grown).trans (hg1.mono (by first | omega | go_size))
  obtain ⟨hc1, hf1⟩ := bcell hg1
  have hs1 := hg1.size
  try simp only [World.size_alloc, World.size_setCell, World.size_drew] at hs1
  clear hg1 hc1 hf1
  go_wp2_with fail
  refine (check_any A c l _ (by omega) HW.out (lon HL.out hb1)).mono ?_
  rintro eE W2 ⟨rfl, hg2⟩
  have hb2 : Below w.heap.size w W2 := (show Below w.heap.size w _ by go_grown).trans (hg2.mono (by first | omega | go_size))
  obtain ⟨hc2, hf2⟩ := bcell hg2
  have hs2 := hg2.size
  try simp only [World.size_alloc, World.size_setCell, World.size_drew] at hs2
  clear hg2 hc2 hf2
  go_wp2_with fail
  go_ret
  exact ⟨rfl, by go_grown⟩

set_option maxRecDepth 100000 in
set_option maxHeartbeats 8000000 in
theorem walk_ok (A AB : Option Addr) (c cb : Nat) (l : List S3) (zs : List Int) (q0 : Int) (w : World) (hl : Lst w w.heap.size A l) (hb : Buf l) (hz : zs.length ≤ 2000) (hzr : IsRow w w.heap.size 1 AB zs.length (fun j => .int .u8 (zs.getD j 0))) (hAB : AB = none → zs.length = 0 ∧ cb = 0) (hby : IsBytes zs) (hq0 : 0 ≤ q0 ∧ q0 ≤ 18446744073709551615) :
    Calls Try.prog 13 #[.slice A l.length c, .slice AB zs.length cb, .int .u64 q0] w (Lib.True1 w.heap.size w) := by
  unfold Lib.True1
  have hb0 : Below w.heap.size w w := Below.refl _ _
  have h1 : decide ((100 : Int) < (l.length : Int)) = false := decide_eq_false (by have := hb.len; omega)
  have hlen : l.length ≤ 64 := hb.len
  have hlz : l.length ≤ 1000000 := by omega
  have HB := Lib.hid hb
  have HL := Lib.hid hl
  have HZ := Lib.hid (And.intro hzr (And.intro hAB hby))
  obtain ⟨N, hN⟩ : ∃ N, zs.length = N := ⟨_, rfl⟩
  have HN := Lib.hid hN
  rw [hN] at hz ⊢
  have h2 : decide ((2000 : Int) < (N : Int)) = false := decide_eq_false (by omega)
  clear hb hl hzr hAB hby hN
  go_enter Try.func13, Try.ntmps13
  go_wp2_with fail
  refine (SgLives.lives_any _).mono ?_
  rintro eE W1 ⟨rfl, hg1⟩
  have hb1 : Below w.heap.size w W1 := (show Below w.heap.size w _ by go_grown).trans (hg1.mono (by first | omega | go_size))
  obtain ⟨hc1, hf1⟩ := bcell hg1
  have hs1 := hg1.size
  try simp only [World.size_alloc, World.size_setCell, World.size_drew] at hs1
  clear hg1 hc1 hf1
  go_wp2_with fail
  have L1 := Lib.hid (show Lst W1 W1.heap.size A l from lon HL.out hb1)
  (with_reducible refine (check_is hlz HB.out.raw L1.out HB.out.check).mono ?_)
  rintro e W2 ⟨rfl, hg2⟩
  have hb2 : Below w.heap.size w W2 := (show Below w.heap.size w _ by go_grown).trans (hg2.mono (by first | omega | go_size))
  obtain ⟨hc2, hf2⟩ := bcell hg2
  have hs2 := hg2.size
  try simp only [World.size_alloc, World.size_setCell, World.size_drew] at hs2
  clear hg2 hc2 hf2
  go_wp2_with fail
  (with_reducible refine (new1 2000 W2.heap.size 1 _ (by decide) (by decide) (by go_cell) (by go_cell) (by go_size)).mono ?_)
  rintro e W3 ⟨m, g1, b3, c2, c3, A2, rfl, hM, hrow, hfr, hg3⟩
  have HM3 := Lib.hid hM
  have HR3 := Lib.hid hrow
  have hb3lt := hM.lt
  have hfr' : w.heap.size ≤ b3 := by rw [World.size_alloc] at hfr; omega
  clear hM hrow hfr
  have hb3 : Below w.heap.size w W3 := (show Below w.heap.size w _ by go_grown).trans (hg3.mono (by first | omega | go_size))
  obtain ⟨hc3, hf3⟩ := bcell hg3
  have hs3 := hg3.size
  try simp only [World.size_alloc, World.size_setCell, World.size_drew] at hs3
  clear hg3 hc3 hf3
  go_wp2_with fail
  have hrz : IsRow W3 W3.heap.size 1 AB N (fun j => .int .u8 (zs.getD j 0)) := (IsRow.below (HN.out ▸ HZ.out.1) hb3).more (by omega)
  (with_reducible refine (own_any AB N cb zs _ HN.out (by omega) hrz (HN.out ▸ HZ.out.2.1)).mono ?_)
  rw [show BytesP zs = BytesP zs from rfl]
  rintro e W4 ⟨A4, c4, rfl, hown4, hg4⟩
  rw [HN.out] at hown4 ⊢
  have HO4 := Lib.hid (own_row hown4)
  have HM4 := Lib.hid (HM3.out.below hg4)
  have HR4 := Lib.hid (HR3.out.of_block (hg4.block b3 HR3.out.lt))
  have hb4 : Below w.heap.size w W4 := hb3.trans (hg4.mono (by omega))
  have hs4 := hg4.size
  clear hown4 hg4 hrz
  go_wp2_with fail
  (with_reducible refine (write_one A4 N c4 5 (fun _ => .int .u8 0) (fun j => zs.getD j 0) W4 HM4.out HR4.out HO4.out.2 hz).mono ?_)
  rintro e W5 ⟨rfl, hrow5, hg5⟩
  have hb5 : Below w.heap.size w W5 := hb4.grown hg5 (by omega) (fun b e => by cases e; exact hfr')
  have hs5 := hg5.size
  have HM5 := Lib.hid (HM4.out.only hg5)
  obtain ⟨gz, hgz⟩ : ∃ g : Nat → Int, (fun j => zs.getD j 0) = g := ⟨_, rfl⟩
  have HGZ := Lib.hid hgz
  have HR5 := Lib.hid (show W5.rowIs b3 5 c3 (fun j => .int .u8 (gz j)) from hrow5.congr fun j _ => by rw [← hgz]; exact wr0_eq zs N HN.out j)
  have HBY5 := Lib.hid (show By W5 b3 2000 gz from by_of HR5.out (HM4.out.n3c))
  have L5 := Lib.hid (show Lst W5 W5.heap.size A l from (IsRow.below HL.out hb5).more (by omega))
  clear hrow5 hg5 hgz
  go_wp2_with fail
  obtain ⟨al, hal⟩ : ∃ al, allIn (GmOne.oneM 0 ((2000 : Nat) : Int)) 1 l = al := ⟨_, rfl⟩
  cases al with
  | false =>
    have hin := inL_not HB.out.check hal
    have HIN := Lib.hid (show inL (GmOne.oneM 0 ((2000 : Nat) : Int)) 1 l ≠ 0 from by rw [hin]; decide)
    have HI5 := Lib.hid hin
    clear hin hal
    (with_reducible refine (in_any A c l _ HM5.out hlz HB.out.raw L5.out).mono ?_)
    rw [HI5.out]
    rintro e W6 ⟨rfl, hg6⟩
    have L6 := Lib.hid (lon L5.out hg6)
    have HM6 := Lib.hid (HM5.out.below hg6)
    have hb6 : Below w.heap.size w W6 := hb5.trans (hg6.mono (by omega))
    have hs6 := hg6.size
    clear hg6
    go_wp2_with fail
    (with_reducible refine (gather_bad A c l _ HM6.out hlz HB.out.raw L6.out HIN.out).mono ?_)
    rw [HI5.out]
    rintro e W7 ⟨rfl, hg7⟩
    have L7 := Lib.hid (lon L6.out hg7)
    have HM7 := Lib.hid (HM6.out.below hg7)
    have hb7 : Below w.heap.size w W7 := hb6.trans (hg7.mono (by omega))
    have hs7 := hg7.size
    clear hg7
    go_wp2_with fail
    (with_reducible refine (scatter_bad A c l (.slice AB N cb) _ HM7.out hlz HB.out.raw L7.out HIN.out).mono ?_)
    rw [HI5.out]
    rintro e W8 ⟨rfl, hg8⟩
    have hb8 : Below w.heap.size w W8 := hb7.trans (hg8.mono (by omega))
    clear hg8
    go_wp2_with fail
    go_ret
    exact ⟨rfl, hb8⟩
  | true =>
    have hst : ∀ i, i < 1 → 0 ≤ (GmOne.oneM 0 ((2000 : Nat) : Int)).st i := fun i hi => (HM5.out.fit i hi).1
    have hsm := sm_small hal
    have hrd0 := HB.out.rd0
    have hwr0 := HB.out.wr0
    have hrw := HB.out.rd_wr
    have hpb := part_buf false HB.out
    have hpi := part_in hst false hal HB.out
    have hps := sm_part_false HB.out
    have hpr := reads_of HB.out
    have hwb := part_buf true HB.out
    have hws := sm_part_true HB.out
    obtain ⟨P, hP⟩ : ∃ P, partL l false = P := ⟨_, rfl⟩
    obtain ⟨Q, hQ⟩ : ∃ Q, partL l true = Q := ⟨_, rfl⟩
    rw [hP] at hpb hpi hps hpr
    rw [hQ] at hwb hws
    obtain ⟨R, hR⟩ : ∃ R : Nat, rd l = R := ⟨(rd l).toNat, by omega⟩
    obtain ⟨V, hV⟩ : ∃ V : Nat, wr l = V := ⟨(wr l).toNat, by omega⟩
    rw [hR] at hrd0 hrw hps
    rw [hV] at hwr0 hrw hws
    have hRb : R ≤ 200000 ∧ V ≤ 200000 := by
      have : (l.length : Int) * (2000 : Nat) ≤ 64 * 2000 := by omega
      omega
    obtain ⟨q, hq⟩ : ∃ q, q0 % ((R : Int) + 1) = q := ⟨_, rfl⟩
    have hq1 : 0 ≤ q := hq ▸ Int.emod_nonneg _ (by omega)
    have hq2 : q < (R : Int) + 1 := hq ▸ Int.emod_lt_of_pos _ (by omega)
    have hqt : q0.tmod ((R : Int) + 1) = q := by rw [Int.tmod_eq_emod_of_nonneg hq0.1, hq]
    obtain ⟨C, hC⟩ : ∃ C, cutL P 0 q = C := ⟨_, rfl⟩
    obtain ⟨D, hD⟩ : ∃ D, cutL P q R = D := ⟨_, rfl⟩
    have eC : C = takeL q P := by rw [← hC, hpb.cut0]
    have eD : D = dropL q P := by
      rw [← hD, hpb.cut]
      refine take_all _ _ (hpb.drop q hq1).val ?_
      have := sm_split q P hpb.val
      have := sm_nonneg (hpb.take q hq1).val
      omega
    have bC : Buf C := eC ▸ hpb.take q hq1
    have bD : Buf D := eD ▸ hpb.drop q hq1
    have rC : Reads C := eC ▸ reads_take q hpr
    have rD : Reads D := eD ▸ reads_drop q hpr
    have iC : allIn (GmOne.oneM 0 ((2000 : Nat) : Int)) 1 C = true := eC ▸ take_in hst q P hpi hpb.val
    have iD : allIn (GmOne.oneM 0 ((2000 : Nat) : Int)) 1 D = true := eD ▸ drop_in hst q P hpi hpb.val
    have hga := ga_split hst gz q P hq1 hpb.val hpi
    rw [← eC, ← eD] at hga
    have hgl := gaL_len (GmOne.oneM 0 ((2000 : Nat) : Int)) 1 gz P hpb.val
    have hsC : rd C ≤ 1000000000 := by have := bC.rd_wr; have := bC.wr0; have := sm_small iC; have := bC.len; omega
    have hsD : rd D ≤ 1000000000 := by have := bD.rd_wr; have := bD.wr0; have := sm_small iD; have := bD.len; omega
    obtain ⟨G, hG⟩ : ∃ G, gaL (GmOne.oneM 0 ((2000 : Nat) : Int)) 1 gz P = G := ⟨_, rfl⟩
    obtain ⟨G1, hG1⟩ : ∃ G, gaL (GmOne.oneM 0 ((2000 : Nat) : Int)) 1 gz C = G := ⟨_, rfl⟩
    obtain ⟨G2, hG2⟩ : ∃ G, gaL (GmOne.oneM 0 ((2000 : Nat) : Int)) 1 gz D = G := ⟨_, rfl⟩
    rw [hG, hG1, hG2] at hga
    rw [hG, hps] at hgl
    have hGl : G.length = R := by omega
    have hbyt : ∀ j, 0 ≤ gz j ∧ gz j ≤ 255 := fun j => by
      rw [← HGZ.out]
      show 0 ≤ zs.getD j 0 ∧ zs.getD j 0 ≤ 255
      by_cases h : j < zs.length
      · have := HZ.out.2.2 _ (List.getElem_mem h)
        simpa [List.getD_eq_getElem?_getD, h] using this
      · rw [List.getD_eq_getElem?_getD, List.getElem?_eq_none (by omega)]; decide
    have hGb : IsBytes G := hG ▸ ga_bytes _ _ _ _ hbyt
    have hG1b : IsBytes G1 := hG1 ▸ ga_bytes _ _ _ _ hbyt
    have hG2b : IsBytes G2 := hG2 ▸ ga_bytes _ _ _ _ hbyt
    have HIN := Lib.hid (And.intro (inL_of HB.out hal) (And.intro (inL_of bC iC) (inL_of bD iD)))
    have HE := Lib.hid (And.intro hP (And.intro hR (And.intro hV (And.intro hC hD))))
    have HPB := Lib.hid (And.intro hpb (And.intro bC (And.intro bD hwb)))
    have HPR := Lib.hid (And.intro (part_reads bC rC) (part_reads bD rD))
    have HG := Lib.hid (And.intro hG (And.intro hG1 (And.intro hG2 (And.intro hga hGl))))
    have HGB := Lib.hid (And.intro hGb (And.intro hG1b hG2b))
    have HSB := Lib.hid (And.intro hsC hsD)
    have HQ := Lib.hid (And.intro hQ hws)
    have HBT := Lib.hid hbyt
    have lP := hpb.len
    have lC := bC.len
    have lD := bD.len
    obtain ⟨rb, vb⟩ := hRb
    have hR1 : ¬ (R : Int) + 1 = 0 := by omega
    clear hst hsm hrd0 hwr0 hrw hpb hpi hps hpr hwb hws hP hQ hR hV hC hD eC eD bC bD rC rD iC iD hga hgl hsC hsD hG hG1 hG2 hGl hbyt hGb hG1b hG2b hal hq
    (with_reducible refine (in_any A c l _ HM5.out hlz HB.out.raw L5.out).mono ?_)
    rw [HIN.out.1]
    rintro e W6 ⟨rfl, hg6⟩
    have L6 := Lib.hid (lon L5.out hg6)
    have HM6 := Lib.hid (HM5.out.below hg6)
    have HBY6 := Lib.hid (show By W6 b3 2000 gz from fun j hj => (hg6.cell (p := ⟨b3, j, none⟩) HM5.out.lt).trans (HBY5.out j hj))
    have HR6 := Lib.hid (HR5.out.of_block (hg6.block b3 HR5.out.lt))
    have hb6 : Below w.heap.size w W6 := hb5.trans (hg6.mono (by omega))
    have hs6 := hg6.size
    clear hg6
    go_wp2_with fail
    (with_reducible refine (total_is hlz HB.out.raw L6.out HE.out.2.1 HE.out.2.2.1).mono ?_)
    rintro e W7 ⟨rfl, hg7⟩
    have L7 := Lib.hid (lon L6.out hg7)
    have HM7 := Lib.hid (HM6.out.below hg7)
    have HBY7 := Lib.hid (show By W7 b3 2000 gz from fun j hj => (hg7.cell (p := ⟨b3, j, none⟩) HM6.out.lt).trans (HBY6.out j hj))
    have HR7 := Lib.hid (HR6.out.of_block (hg7.block b3 HR6.out.lt))
    have hb7 : Below w.heap.size w W7 := hb6.trans (hg7.mono (by omega))
    have hs7 := hg7.size
    clear hg7
    go_wp2_with fail
    (with_reducible refine (part_is hlz HB.out.raw L7.out HE.out.1).mono ?_)
    rintro e W8 ⟨A8, c8, rfl, h8, hc8, hg8⟩
    have L8 := Lib.hid (lon L7.out hg8)
    have P8 := Lib.hid h8
    have HM8 := Lib.hid (HM7.out.below hg8)
    have HBY8 := Lib.hid (show By W8 b3 2000 gz from fun j hj => (hg8.cell (p := ⟨b3, j, none⟩) HM7.out.lt).trans (HBY7.out j hj))
    have HR8 := Lib.hid (HR7.out.of_block (hg8.block b3 HR7.out.lt))
    have hb8 : Below w.heap.size w W8 := hb7.trans (hg8.mono (by omega))
    have hs8 := hg8.size
    clear h8 hc8 hg8
    go_wp2_with fail
    (with_reducible refine (gather_ok A c l gz _ HM8.out HB.out.raw L8.out HIN.out.1 HBY8.out (by rw [HE.out.2.1]; omega)).mono ?_)
    rw [HE.out.1, HG.out.1]
    rintro e W9 ⟨A9, c9, rfl, h9, hg9⟩
    rw [HG.out.2.2.2.2] at h9 ⊢
    have L9 := Lib.hid (lon L8.out hg9)
    have P9 := Lib.hid (lon P8.out hg9)
    have O9 := Lib.hid h9
    have HM9 := Lib.hid (HM8.out.below hg9)
    have HBY9 := Lib.hid (show By W9 b3 2000 gz from fun j hj => (hg9.cell (p := ⟨b3, j, none⟩) HM8.out.lt).trans (HBY8.out j hj))
    have HR9 := Lib.hid (HR8.out.of_block (hg9.block b3 HR8.out.lt))
    have hb9 : Below w.heap.size w W9 := hb8.trans (hg9.mono (by omega))
    have hs9 := hg9.size
    clear h9 hg9
    go_wp2_with fail
    (with_reducible refine (cut_is (by omega) HPB.out.1.raw P9.out ⟨by decide, by decide⟩ ⟨hq1, by omega⟩ HE.out.2.2.2.1).mono ?_)
    rintro e W10 ⟨A10, c10, rfl, h10, hc10, hg10⟩
    have L10 := Lib.hid (lon L9.out hg10)
    have P10 := Lib.hid (lon P9.out hg10)
    have C10 := Lib.hid h10
    have O10 := Lib.hid (own_below O9.out hg10)
    have HM10 := Lib.hid (HM9.out.below hg10)
    have HBY10 := Lib.hid (show By W10 b3 2000 gz from fun j hj => (hg10.cell (p := ⟨b3, j, none⟩) HM9.out.lt).trans (HBY9.out j hj))
    have HR10 := Lib.hid (HR9.out.of_block (hg10.block b3 HR9.out.lt))
    have hb10 : Below w.heap.size w W10 := hb9.trans (hg10.mono (by omega))
    have hs10 := hg10.size
    clear h10 hc10 hg10
    go_wp2_with fail
    (with_reducible refine (gather_ok A10 c10 C gz _ HM10.out HPB.out.2.1.raw C10.out HIN.out.2.1 HBY10.out HSB.out.1).mono ?_)
    rw [HPR.out.1, HG.out.2.1]
    rintro e W11 ⟨A11, c11, rfl, h11, hg11⟩
    have L11 := Lib.hid (lon L10.out hg11)
    have P11 := Lib.hid (lon P10.out hg11)
    have O11 := Lib.hid (own_below O10.out hg11)
    have OC11 := Lib.hid h11
    have HM11 := Lib.hid (HM10.out.below hg11)
    have HBY11 := Lib.hid (show By W11 b3 2000 gz from fun j hj => (hg11.cell (p := ⟨b3, j, none⟩) HM10.out.lt).trans (HBY10.out j hj))
    have HR11 := Lib.hid (HR10.out.of_block (hg11.block b3 HR10.out.lt))
    have hb11 : Below w.heap.size w W11 := hb10.trans (hg11.mono (by omega))
    have hs11 := hg11.size
    clear h11 hg11
    go_wp2_with fail
    (with_reducible refine (cut_is (by omega) HPB.out.1.raw P11.out ⟨hq1, by omega⟩ ⟨by omega, by omega⟩ HE.out.2.2.2.2).mono ?_)
    rintro e W12 ⟨A12, c12, rfl, h12, hc12, hg12⟩
    have L12 := Lib.hid (lon L11.out hg12)
    have D12 := Lib.hid h12
    have O12 := Lib.hid (own_below O11.out hg12)
    have OC12 := Lib.hid (own_below OC11.out hg12)
    have HM12 := Lib.hid (HM11.out.below hg12)
    have HBY12 := Lib.hid (show By W12 b3 2000 gz from fun j hj => (hg12.cell (p := ⟨b3, j, none⟩) HM11.out.lt).trans (HBY11.out j hj))
    have HR12 := Lib.hid (HR11.out.of_block (hg12.block b3 HR11.out.lt))
    have hb12 : Below w.heap.size w W12 := hb11.trans (hg12.mono (by omega))
    have hs12 := hg12.size
    clear h12 hc12 hg12
    go_wp2_with fail
    (with_reducible refine (gather_ok A12 c12 D gz _ HM12.out HPB.out.2.2.1.raw D12.out HIN.out.2.2 HBY12.out HSB.out.2).mono ?_)
    rw [HPR.out.2, HG.out.2.2.1]
    rintro e W13 ⟨A13, c13, rfl, h13, hg13⟩
    have L13 := Lib.hid (lon L12.out hg13)
    have O13 := Lib.hid (own_below O12.out hg13)
    have OC13 := Lib.hid (own_below OC12.out hg13)
    have OD13 := Lib.hid h13
    have HM13 := Lib.hid (HM12.out.below hg13)
    have HBY13 := Lib.hid (show By W13 b3 2000 gz from fun j hj => (hg13.cell (p := ⟨b3, j, none⟩) HM12.out.lt).trans (HBY12.out j hj))
    have HR13 := Lib.hid (HR12.out.of_block (hg13.block b3 HR12.out.lt))
    have hb13 : Below w.heap.size w W13 := hb12.trans (hg13.mono (by omega))
    have hs13 := hg13.size
    clear h13 hg13
    go_wp2_with fail
    (with_reducible refine (image_any m 2000 c3 (some ⟨b3, 0, none⟩) gz W13 (by decide) HM13.out.mem.self HM13.out.mem.bys (by_row HBY13.out HM13.out.lt)).mono ?_)
    rintro e W14 ⟨b14, rfl, hbb14, hrow14, hg14⟩
    have L14 := Lib.hid (lon L13.out hg14)
    have O14 := Lib.hid (own_below O13.out hg14)
    have OC14 := Lib.hid (own_below OC13.out hg14)
    have OD14 := Lib.hid (own_below OD13.out hg14)
    have HM14 := Lib.hid (HM13.out.below hg14)
    have HBY14 := Lib.hid (show By W14 b3 2000 gz from fun j hj => (hg14.cell (p := ⟨b3, j, none⟩) HM13.out.lt).trans (HBY13.out j hj))
    have HR14 := Lib.hid (HR13.out.of_block (hg14.block b3 HR13.out.lt))
    have hb14 : Below w.heap.size w W14 := hb13.trans (hg14.mono (by omega))
    have hs14 := hg14.size
    have k14 := run_strL (src := 37) (dst := 9) Try.underlying37 Try.underlying5 Try.underlying9 (c := 2000) (list_len gz 2000) (list_bytes _ _ HBT.out) (image_row hrow14)
    clear hg14 hrow14
    go_wp2_with fail
    have hb3l := HM8.out.lt
    have HT0 : takeL ((0 : Nat) : Int) Q = [] := takeL_zero Q
    (with_reducible refine (scatter_ok A c l none 0 0 c3 (fun _ => 0) 5 (fun j => .int .u8 (gz j)) W14 HM14.out HB.out.raw L14.out HIN.out.1 HM14.out.n3c HR14.out IsRow.none_ (Nat.le_refl _) (by decide) (fun h => absurd h (by decide))).mono ?_)
    rw [HQ.out.1, HT0, show sm ([] : List S3) = 0 from rfl, show scF (GmOne.oneM 0 ((2000 : Nat) : Int)) 1 (fun _ => 0) 0 [] (fun j => .int .u8 (gz j)) = (fun j => .int .u8 (gz j)) from rfl]
    rintro e W15 ⟨rfl, hrow15, hg15⟩
    have hs15 := hg15.size
    have L15 := Lib.hid (show Lst W15 W15.heap.size A l from row_other L14.out hg15 (fun h0 ad e => by obtain ⟨ad', e', hlt, _⟩ := HL.out h0; rw [e'] at e; cases e; omega))
    have O15 := Lib.hid (GmNew.own_ne O14.out hg15 (fun b e => by cases e; left; omega))
    have OC15 := Lib.hid (GmNew.own_ne OC14.out hg15 (fun b e => by cases e; left; omega))
    have OD15 := Lib.hid (GmNew.own_ne OD14.out hg15 (fun b e => by cases e; left; omega))
    have HM15 := Lib.hid (HM14.out.only hg15)
    have HR15 := Lib.hid hrow15
    have HBY15 := Lib.hid (by_of hrow15 HM14.out.n3c)
    have hb15 : Below w.heap.size w W15 := hb14.grown hg15 (by omega) (fun b e => by cases e; exact hfr')
    have kA := run_strL (src := 37) (dst := 9) Try.underlying37 Try.underlying5 Try.underlying9 (c := c9) (own_row O15.out).1 HGB.out.1 (own_row O15.out).2
    have kC := run_strL (src := 37) (dst := 9) Try.underlying37 Try.underlying5 Try.underlying9 (c := c11) (own_row OC15.out).1 HGB.out.2.1 (own_row OC15.out).2
    have kD := run_strL (src := 37) (dst := 9) Try.underlying37 Try.underlying5 Try.underlying9 (c := c13) (own_row OD15.out).1 HGB.out.2.2 (own_row OD15.out).2
    have hst : strL G1 ++ strL G2 = strL G := by rw [strL_append, HG.out.2.2.2.1]
    have hcat : ¬ (9223372036854775807 : Int) < ((strL G1).size : Int) + ((strL G2).size : Int) := by
      have h1 := strL_size G1
      have h2 := strL_size G2
      have h3 : G1.length + G2.length = R := by rw [← List.length_append, HG.out.2.2.2.1, HG.out.2.2.2.2]
      omega
    clear hrow15 hg15 HT0 k14
    go_wp2_with fail
    (with_reducible refine (image_any m 2000 c3 (some ⟨b3, 0, none⟩) gz W15 (by decide) HM15.out.mem.self HM15.out.mem.bys (by_row HBY15.out HM15.out.lt)).mono ?_)
    rintro e W16 ⟨b16, rfl, hbb16, hrow16, hg16⟩
    have L16 := Lib.hid (lon L15.out hg16)
    have HM16 := Lib.hid (HM15.out.below hg16)
    have HR16 := Lib.hid (HR15.out.of_block (hg16.block b3 HR15.out.lt))
    have hb16 : Below w.heap.size w W16 := hb15.trans (hg16.mono (by omega))
    have hs16 := hg16.size
    have k16 := run_strL (src := 37) (dst := 9) Try.underlying37 Try.underlying5 Try.underlying9 (c := 2000) (list_len gz 2000) (list_bytes _ _ HBT.out) (image_row hrow16)
    obtain ⟨i0, hi0, hz0, hs0, hby0⟩ := GmNew.u8info
    have HI0 := Lib.hid hi0
    have HI1 := Lib.hid hz0
    have HI2 := Lib.hid hs0
    have HI3 := Lib.hid hby0
    clear hg16 hrow16 kA kC kD hst hi0 hz0 hs0 hby0
    go_wp2_with (at_make; refine wpList_make_full _ rfl _ _ 37 rfl W16.heap.size 5 i0 (.int .u8 0) 1 Try.underlying37 HI0.out HI1.out HI2.out _ _ _ _ (V + 5) rfl rfl (by omega) (by omega) (by rw [HI3.out]; omega) (by unfold maxLen; omega) (Nat.le_refl _) ?_)
    intro W17 hown17 hg17
    have hB17 : Below W16.heap.size W16 W17 := (Below.refl _ _).grown hg17 (Nat.le_refl _) (fun b e => by cases e)
    have L17 := Lib.hid (lon L16.out hB17)
    have HM17 := Lib.hid (HM16.out.below hB17)
    have HR17 := Lib.hid (HR16.out.of_block (hB17.block b3 HR16.out.lt))
    have hb17 : Below w.heap.size w W17 := hb16.trans (hB17.mono (by omega))
    have hs17 := hB17.size
    rw [made_u8] at hown17
    have OW17 := Lib.hid (own_row hown17)
    have hb3l16 := HM16.out.lt
    have hT : takeL ((V + 5 : Nat) : Int) Q = Q := take_all _ _ HPB.out.2.2.2.val (by rw [HQ.out.2]; omega)
    clear hown17 hg17 hB17 k16
    go_wp2_with fail
    (with_reducible refine (scatter_ok A c l (some ⟨W16.heap.size, 0, none⟩) (V + 5) (V + 5) c3 (fun j => (List.replicate (V + 5) (0 : Int)).getD j 0) 5 (fun j => .int .u8 (gz j)) W17 HM17.out HB.out.raw L17.out HIN.out.1 HM17.out.n3c HR17.out OW17.out.2 (Nat.le_refl _) (by omega) (fun _ ad e => by cases e; show W16.heap.size ≠ b3; omega)).mono ?_)
    rw [HQ.out.1, hT, HQ.out.2]
    rintro e W18 ⟨rfl, hrow18, hg18⟩
    have hb18 : Below w.heap.size w W18 := hb17.grown hg18 (by omega) (fun b e => by cases e; exact hfr')
    clear hrow18 hg18 hT
    go_wp2_with fail
    go_ret
    exact ⟨rfl, hb18⟩

theorem walk (v : Value) (A : Option Addr) (c : Nat) (l : List S3) (u : Value) (zs : List Int) (q : Int) (w : World) (hs : IsSegs w v A c l) (hz : Args.IsInts w .u8 u zs) (w3 : (Lit.int .u64 q).wf = true) :
    Calls Try.prog 13 #[v, u, .int .u64 q] w (Lib.True1 w.heap.size w) := by
  obtain ⟨rfl, h1, h2, h3, h4⟩ := hs
  obtain ⟨AB, cb, rfl, k1, k2, k3, k4, k5⟩ := open_u8s hz
  by_cases hl : 100 < l.length
  · exact walk_many A c l _ q w hl (by unfold maxLen at h2; omega)
  · by_cases hn : 2000 < zs.length
    · exact walk_long A AB c _ cb l q w (by omega) hn (by unfold maxLen at k2; omega)
    · by_cases hk : checkL l = 0
      · exact walk_ok A AB c cb l zs q w h4 (Buf.of h3 hk) (by omega) k3 k4 k5 (bounds_u64 w3)
      · exact walk_bad A AB c _ cb l q w (by omega) (by omega) h3 h4 hk

set_option maxRecDepth 100000 in
theorem lifted (os : Os) (started : os.Started) (H : Type) (enc : TypeId × Value → H) :
    ReturnsInHanded {} Try.checked os 13 .any (Rows.segBothSpec.pre6 enc Try.prog Try.f13 Rows.segBothRow.domain false) (Rows.segBothSpec.post enc Try.prog Try.f13 false true false false) := by
  refine Lib.lifted (C := Try.checked) (tb := 4) H enc Lib.own started (by kernel_rfl) Try.func13
    (ChangeSpec.witness6 (enc := enc) (C := Try.checked) false ⟨#[], #[.slice none 0 0, .slice none 0 0, .int .u64 0], []⟩ 8 (by kernel_rfl) (by kernel_rfl) (by kernel_rfl) (by kernel_rfl))
    Lib.laidOut (Lib.readable_of (by kernel_rfl)) rfl Try.underlying4 rfl ?_ ?_
  · intro ds h
    match ds, h with
    | [_, _, _], _ => exact ⟨rfl, rfl, rfl⟩
  · intro W base args ds p hval hA hfz hlt
    rw [Try.params13] at hval
    have hA' : DataW.TrodAll enc Try.prog W 0 (fun _ => true) true Try.f13.params.toList args.toList ds p := hA
    rw [Try.params13] at hA'
    obtain ⟨v0, vs0, d0, ds0, p0, q0, hargs, rfl, rfl, h0, r0⟩ := trodAll_cons hA'
    obtain ⟨v1, vs1, d1, ds1, p1, q1, rfl, rfl, rfl, h1, r1⟩ := trodAll_cons r0
    obtain ⟨v2, vs2, d2, ds2, p2, q2, rfl, rfl, rfl, h2, r2⟩ := trodAll_cons r1
    obtain ⟨rfl, rfl, rfl⟩ := trodAll_nil r2
    obtain rfl : args = #[v0, v1, v2] := by cases args; simp_all
    obtain ⟨a0_0, a0_1, a0_2, w0⟩ := SgArgs.open_segs (hval 0 103 v0 rfl rfl) h0
    obtain ⟨zs1, w1⟩ := Args.open_ints Try.underlying37 Try.underlying5 (by kernel_rfl) (hval 1 37 v1 rfl rfl) h1 (fun x hx => hlt x (by simp [hx]))
    obtain ⟨a2, rfl, rfl, rfl, w2⟩ := open_int Try.underlying26 (hval 2 26 v2 rfl rfl) h2
    exact walk v0 a0_0 a0_1 a0_2 v1 zs1 a2 W w0 w1 w2

theorem over : Rows.segBothRow.holds Try.pinned (OpenSpec.ofChange Rows.segBothSpec) :=
  OpenClaim.holds_of_wide 13 Try.f13 rfl rfl rfl rfl rfl rfl rfl ⟨rfl, rfl, rfl, rfl, rfl⟩ rfl rfl rfl rfl rfl (by kernel_rfl) Try.func13 (by kernel_rfl)
    (of_decide_eq_true (by kernel_rfl)) (by unfold Func.isWrapper; first | (rw [if_pos (by decide +kernel)]; kernel_rfl) | (rw [if_neg (by decide +kernel)]; exact ⟨rfl, rfl⟩))
    (fun os started H enc _ => lifted os started H enc)

/-- The statement. -/
theorem proved : Rows.SegBothSaid :=
  over

end Go.Proofs.Ytohopmccggggbaa.SegBoth
