/- The law SegNames: the chapter's examples. No input; no condition. -/
import Derived.Test.YtohopmccggggbaaSgOne
import Derived.Lib.SlBytesConst
namespace Go.Proofs.Ytohopmccggggbaa.SegNames
open Go.ChangeShapes Go.WideShapes Go.ChangeAt Go.RowKit Rw Sg SgCheck SgTake SgTotal SgCut SgMath SgIn SgScat SgConcat SgJoin SgArgs SgGath SgOne GmFind GmWord GmRead GmWrite GmLoad
set_option linter.unusedVariables false
set_option linter.unusedSimpArgs false

theorem envOk : (Eng.Env.of Try.prog).Ok := Eng.Env.of_ok _ (by kernel_rfl) (by kernel_rfl)
theorem gather_nil (x : Value) (w : World) : Calls Try.prog 81 #[.pointer none, x] w fun e w' => e = .returned (.tuple #[.slice none 0 0, .int .i64 1]) ∧ Below w.heap.size w w' :=
  Eng.runsAny (E := Eng.Env.of Try.prog) (f := 1000) (args := [.pointer none, Eng.bot]) envOk (by kernel_rfl) (by kernel_rfl) (.cons .ptr0 (.cons (.bot _ _) .nil)) w
set_option maxRecDepth 100000 in
theorem check_long (A : Option Addr) (n c : Nat) (w : World) (h : 64 < n) : Calls Try.prog 83 #[.slice A n c] w fun e w' => e = .returned (.int .i64 3) ∧ Below w.heap.size w w' := by
  have h1 : decide ((64 : Int) < (n : Int)) = true := decide_eq_true (by omega)
  go_enter Try.func83, Try.ntmps83
  go_wp2
  go_ret
  exact ⟨rfl, by go_grown⟩
theorem lst_of {W : World} {b : Nat} {l : List S3} (hb : b < W.heap.size) (h : ∀ j, j < l.length * 3 → W.cell? ⟨b, j, none⟩ = some (cell l j)) : Lst W W.heap.size (some ⟨b, 0, none⟩) l := fun _ => ⟨_, rfl, hb, fun j hj => by
  have e : (⟨b, 0, none⟩ : Addr).add j = ⟨b, j, none⟩ := by unfold Addr.add; split <;> simp_all
  rw [e]
  exact h j hj⟩

theorem cell_marked (w : World) (C : Array Value) (t : TypeId) (f : Nat × Nat) (j : Nat) : (w.alloc (.cells C t f)).cell? ⟨w.heap.size, j, none⟩ = C[j]? := by
  have : (w.alloc (.cells C t f)).heap[w.heap.size]? = some (.cells C t f) := by
    show (w.heap.push (.cells C t f))[w.heap.size]? = _
    simp
  unfold World.cell?
  dsimp only
  rw [this]
  rfl
/-- Bytes of a row that was read. -/
theorem row_part {w : World} {b N : Nat} {t : TypeId} {g : Nat → Int} (h : w.rowIs b t N (fun j => .int .u8 (g j))) (o n : Nat) (ns : List Int) (hn : o + n ≤ N) (he : ∀ j, j < n → g (o + j) = ns.getD j 0) : IsRow w w.heap.size 1 (some ⟨b, o, none⟩) n (fun j => .int .u8 (ns.getD j 0)) := fun _ => ⟨_, rfl, h.lt, fun j hj => by
  have e : (⟨b, o, none⟩ : Addr).add j = ⟨b, o + j, none⟩ := by unfold Addr.add; split <;> simp_all
  rw [e, h.cell (by omega), he j (by omega)]⟩
theorem lit_row (w : World) : IsRow (w.alloc (.cells #[.int .u8 97, .int .u8 98, .int .u8 99, .int .u8 100, .int .u8 101, .int .u8 102, .int .u8 103, .int .u8 104] 5 (8, 9))) (w.alloc (.cells #[.int .u8 97, .int .u8 98, .int .u8 99, .int .u8 100, .int .u8 101, .int .u8 102, .int .u8 103, .int .u8 104] 5 (8, 9))).heap.size 1 (some ⟨w.heap.size, 0, none⟩) 8 (fun j => .int .u8 (([97, 98, 99, 100, 101, 102, 103, 104] : List Int).getD j 0)) := fun _ => ⟨_, rfl, by simp, fun j hj => by
  have e : (⟨w.heap.size, 0, none⟩ : Addr).add j = ⟨w.heap.size, j, none⟩ := by unfold Addr.add; split <;> simp_all
  rw [e, cell_marked]
  match j, hj with
  | 0, _ => rfl
  | 1, _ => rfl
  | 2, _ => rfl
  | 3, _ => rfl
  | 4, _ => rfl
  | 5, _ => rfl
  | 6, _ => rfl
  | 7, _ => rfl⟩
def T0 : List S3 := [⟨0, 3, false⟩, ⟨50, 4, true⟩, ⟨60, 2, true⟩]
def lit : List Int := [97, 98, 99, 100, 101, 102, 103, 104]
noncomputable def R0 : Rg := GmOne.oneM 0 ((100 : Nat) : Int)
theorem t_raw : ∀ x ∈ T0, x.Raw := by
  intro x hx
  simp only [T0, List.mem_cons, List.not_mem_nil, or_false] at hx
  rcases hx with rfl | rfl | rfl
  · exact ⟨by decide, by decide, by decide, by decide⟩
  · exact ⟨by decide, by decide, by decide, by decide⟩
  · exact ⟨by decide, by decide, by decide, by decide⟩
theorem t_rd : rd T0 = 3 := by decide +kernel
theorem t_wr : wr T0 = 6 := by decide +kernel
theorem t_in : inL R0 1 T0 = 0 := by decide +kernel
theorem t_part : takeL ((8 : Nat) : Int) (partL T0 true) = [⟨50, 4, true⟩, ⟨60, 2, true⟩] := by kernel_rfl
theorem t_sm : sm [⟨50, 4, true⟩, ⟨60, 2, true⟩] = 6 := by decide +kernel
/-- The memory behind Scatter. -/
def g0 (j : Nat) : Int := if 60 ≤ j ∧ j < 62 then lit.getD (4 + (j - 60)) 0 else if 50 ≤ j ∧ j < 54 then lit.getD (j - 50) 0 else 0
theorem sc_eq : scF R0 1 (fun j => lit.getD j 0) 0 [⟨50, 4, true⟩, ⟨60, 2, true⟩] (fun _ => .int .u8 0) = fun j => .int .u8 (g0 j) := by
  have e1 : (place R0 1 50 4).getD 0 = 50 := by decide +kernel
  have e2 : (place R0 1 60 2).getD 0 = 60 := by decide +kernel
  have e3 : scF R0 1 (fun j => lit.getD j 0) 0 [⟨50, 4, true⟩, ⟨60, 2, true⟩] (fun _ => .int .u8 0) = wrF (wrF (fun _ => .int .u8 0) ((place R0 1 50 4).getD 0) 4 (fun j => lit.getD (0 + j) 0)) ((place R0 1 60 2).getD 0) 2 (fun j => lit.getD (4 + j) 0) := rfl
  rw [e3, e1, e2]
  funext j
  unfold wrF g0
  by_cases h1 : 60 ≤ j ∧ j < 62
  · rw [if_pos (by omega), if_pos h1]
  · rw [if_neg (by omega), if_neg h1]
    by_cases h2 : 50 ≤ j ∧ j < 54
    · rw [if_pos (by omega), if_pos h2]
      show Value.int .u8 (lit.getD (0 + (j - 50)) 0) = _
      rw [Nat.zero_add]
    · rw [if_neg (by omega), if_neg h2]

set_option maxRecDepth 100000 in
set_option maxHeartbeats 8000000 in
theorem walk (w : World) : Calls Try.prog 9 #[] w (Lib.True1 w.heap.size w) := by
  unfold Lib.True1
  have hb0 : Below w.heap.size w w := Below.refl _ _
  have kc := fun (w : World) (C : Array Value) (n c : Nat) => Lib.run_convert_bytes_const (P := Try.prog) w 37 5 C n c Try.underlying37 Try.underlying5
  have HRD := Lib.hid t_rd
  have HWR := Lib.hid t_wr
  have HIN := Lib.hid t_in
  have HT := Lib.hid t_raw
  go_enter Try.func9, Try.ntmps9
  go_wp2_with fail
  (with_reducible refine (new1 100 w.heap.size 1 _ (by decide) (by decide) (by go_cell) (by go_cell) (by go_size)).mono ?_)
  rintro e W1 ⟨m, g1, b3, c2, c3, A2, rfl, hM, hrow, hfr, hg1⟩
  have hb1 : Below w.heap.size w W1 := ((Below.refl w.heap.size w).alloc (Nat.le_refl _) _).trans (hg1.mono (by simp))
  have hs1 := hg1.size
  rw [World.size_alloc] at hs1
  rw [World.size_alloc] at hfr
  have HM1 := Lib.hid hM
  have HR1 := Lib.hid hrow
  clear hM hrow hg1
  go_wp2_with fail
  have e3 : T0.length = 3 := rfl
  have L2 := Lib.hid (show Lst (W1.alloc (.cells #[.int .u64 0, .int .u32 3, .bool false, .int .u64 50, .int .u32 4, .bool true, .int .u64 60, .int .u32 2, .bool true] 102)) (W1.alloc (.cells #[.int .u64 0, .int .u32 3, .bool false, .int .u64 50, .int .u32 4, .bool true, .int .u64 60, .int .u32 2, .bool true] 102)).heap.size (some ⟨W1.heap.size, 0, none⟩) T0 from lst_of (by simp) (fun j hj => by
    match j, hj with
    | 0, _ => exact World.cell?_alloc_new _ _ _ _
    | 1, _ => exact World.cell?_alloc_new _ _ _ _
    | 2, _ => exact World.cell?_alloc_new _ _ _ _
    | 3, _ => exact World.cell?_alloc_new _ _ _ _
    | 4, _ => exact World.cell?_alloc_new _ _ _ _
    | 5, _ => exact World.cell?_alloc_new _ _ _ _
    | 6, _ => exact World.cell?_alloc_new _ _ _ _
    | 7, _ => exact World.cell?_alloc_new _ _ _ _
    | 8, _ => exact World.cell?_alloc_new _ _ _ _))
  have hB2 : Below W1.heap.size W1 (W1.alloc (.cells #[.int .u64 0, .int .u32 3, .bool false, .int .u64 50, .int .u32 4, .bool true, .int .u64 60, .int .u32 2, .bool true] 102)) := (Below.refl _ _).alloc (Nat.le_refl _) _
  have hb2 : Below w.heap.size w (W1.alloc (.cells #[.int .u64 0, .int .u32 3, .bool false, .int .u64 50, .int .u32 4, .bool true, .int .u64 60, .int .u32 2, .bool true] 102)) := hb1.trans (hB2.mono (by omega))
  have HM2 := Lib.hid (HM1.out.below hB2)
  have HR2 := Lib.hid (HR1.out.of_block (hB2.block b3 HR1.out.lt))
  have hs2 := hB2.size
  clear hB2
  generalize hX2 : (W1.alloc (.cells #[.int .u64 0, .int .u32 3, .bool false, .int .u64 50, .int .u32 4, .bool true, .int .u64 60, .int .u32 2, .bool true] 102)) = W2 at L2 hb2 HM2 HR2 hs2 ⊢
  clear hX2
  have HTot := total_is (c := 3) (by rw [e3]; decide) HT.out L2.out HRD.out HWR.out
  rw [e3] at HTot
  (with_reducible refine HTot.mono ?_)
  rintro e W3 ⟨rfl, hg3⟩
  have L3 := Lib.hid (lon L2.out hg3)
  have HM3 := Lib.hid (HM2.out.below hg3)
  have HR3 := Lib.hid (HR2.out.of_block (hg3.block b3 HR2.out.lt))
  have hb3 : Below w.heap.size w W3 := hb2.trans (hg3.mono (by omega))
  have hs3 := hg3.size
  clear HTot hg3
  go_wp2_with fail
  have hl4 := lit_row W3
  have hB4 : Below W3.heap.size W3 (W3.alloc (.cells #[.int .u8 97, .int .u8 98, .int .u8 99, .int .u8 100, .int .u8 101, .int .u8 102, .int .u8 103, .int .u8 104] 5 (8, 9))) := (Below.refl _ _).alloc (Nat.le_refl _) _
  have hx4 : (W3.alloc (.cells #[.int .u8 97, .int .u8 98, .int .u8 99, .int .u8 100, .int .u8 101, .int .u8 102, .int .u8 103, .int .u8 104] 5 (8, 9))).heap.size = W3.heap.size + 1 := World.size_alloc _ _
  generalize hX4 : W3.alloc (.cells #[.int .u8 97, .int .u8 98, .int .u8 99, .int .u8 100, .int .u8 101, .int .u8 102, .int .u8 103, .int .u8 104] 5 (8, 9)) = W4 at hl4 hB4 hx4 ⊢
  clear hX4
  have L4 := Lib.hid (lon L3.out hB4)
  have HM4 := Lib.hid (HM3.out.below hB4)
  have HR4 := Lib.hid (HR3.out.of_block (hB4.block b3 HR3.out.lt))
  have hb4 : Below w.heap.size w W4 := hb3.trans (hB4.mono (by omega))
  have hs4 : W3.heap.size < W4.heap.size := by omega
  have hb3l := HM3.out.lt
  have HSc := scatter_ok (some ⟨W1.heap.size, 0, none⟩) 3 T0 (some ⟨W3.heap.size, 0, none⟩) 8 8 c3 (fun j => lit.getD j 0) 5 (fun _ => .int .u8 0) W4 HM4.out HT.out L4.out HIN.out HM4.out.n3c HR4.out hl4 (Nat.le_refl _) (by decide) (fun _ ad e => by cases e; show W3.heap.size ≠ b3; omega)
  rw [e3, t_part, t_sm, show GmOne.oneM 0 ((100 : Nat) : Int) = R0 from rfl, sc_eq] at HSc
  have hlt8 := HM1.out.lt
  clear hl4 hB4
  (with_reducible refine HSc.mono ?_)
  rintro e W5 ⟨rfl, hrow5, hg5⟩
  have hs5 := hg5.size
  have L5 := Lib.hid (show Lst W5 W5.heap.size (some ⟨W1.heap.size, 0, none⟩) T0 from row_other L4.out hg5 (fun _ ad e => by cases e; show W1.heap.size ≠ b3; omega))
  have HM5 := Lib.hid (HM4.out.only hg5)
  have HBY5 := Lib.hid (by_of hrow5 HM4.out.n3c)
  have hb5 : Below w.heap.size w W5 := hb4.grown hg5 (by omega) (fun b e => by cases e; omega)
  clear hrow5 hg5 HSc hx4
  go_wp2_with fail
  (with_reducible refine (read_yes 1 m g1 b3 50 12 (GmOne.oneM 0 ((100 : Nat) : Int)) g0 W5 HM5.out.k1 HM5.out.rin HM5.out.fit HM5.out.n3c HM5.out.n3b HM5.out.mem HBY5.out HM5.out.lt (by decide) (by decide) (by decide) (by decide) (show _ = some 50 from by decide +kernel)).mono ?_)
  rintro e W6 ⟨b6, rfl, hbb6, hrow6, hg6⟩
  have L6 := Lib.hid (lon L5.out hg6)
  have HM6 := Lib.hid (HM5.out.below hg6)
  have hb6 : Below w.heap.size w W6 := hb5.trans (hg6.mono (by omega))
  have hs6 := hg6.size
  have HR6 := Lib.hid hrow6
  clear hrow6 hg6
  go_wp2_with fail
  (with_reducible refine (gather_nil _ _).mono ?_)
  rintro e W7 ⟨rfl, hg7⟩
  have L7 := Lib.hid (lon L6.out hg7)
  have HM7 := Lib.hid (HM6.out.below hg7)
  have HR7 := Lib.hid (HR6.out.of_block (hg7.block b6 HR6.out.lt))
  have hb7 : Below w.heap.size w W7 := hb6.trans (hg7.mono (by omega))
  have hs7 := hg7.size
  clear hg7
  go_wp2_with fail
  (with_reducible refine (SgLives.lives_any _).mono ?_)
  rintro e W8 ⟨rfl, hg8⟩
  have L8 := Lib.hid (lon L7.out hg8)
  have HM8 := Lib.hid (HM7.out.below hg8)
  have HR8 := Lib.hid (HR7.out.of_block (hg8.block b6 HR7.out.lt))
  have hb8 : Below w.heap.size w W8 := hb7.trans (hg8.mono (by omega))
  have hs8 := hg8.size
  clear hg8
  obtain ⟨is, his, hzs, hss, hbs⟩ := SgClone.sginfo
  have HI0 := Lib.hid his
  have HI1 := Lib.hid hzs
  have HI2 := Lib.hid hss
  have HI3 := Lib.hid hbs
  have kA := run_strL (W := W8) (src := 37) (dst := 9) Try.underlying37 Try.underlying5 Try.underlying9 (A := some ⟨b6, 0, none⟩) (n := 4) (c := 12) (ns := [97, 98, 99, 100]) rfl (show ∀ z ∈ ([97, 98, 99, 100] : List Int), 0 ≤ z ∧ z ≤ 255 from by decide) (row_part HR8.out 0 4 [97, 98, 99, 100] (by decide) (by decide))
  have kB := run_strL (W := W8) (src := 37) (dst := 9) Try.underlying37 Try.underlying5 Try.underlying9 (A := some ⟨b6, 10, none⟩) (n := 2) (c := 2) (ns := [101, 102]) rfl (show ∀ z ∈ ([101, 102] : List Int), 0 ≤ z ∧ z ≤ 255 from by decide) (row_part HR8.out 10 2 [101, 102] (by decide) (by decide))
  rw [show strL [97, 98, 99, 100] = ⟨#[97, 98, 99, 100]⟩ from rfl] at kA
  rw [show strL [101, 102] = ⟨#[101, 102]⟩ from rfl] at kB
  clear his hzs hss hbs
  have km := run_make (P := Try.prog) (w := W8) 103 102 is (.agg #[.int .u64 0, .int .u32 0, .bool false]) Try.underlying103 HI0.out HI1.out .i64 .i64 65 65 (by decide) (by decide) (by rw [HI3.out]; decide) (by decide)
  rw [show (65 : Int).toNat = 65 from rfl] at km
  generalize (Obj.cells (madeCells (Value.agg #[.int .u64 0, .int .u32 0, .bool false]).cells (65 * is.size)) 102) = ob at km
  go_wp2_with fail
  (with_reducible refine (check_long (some ⟨W8.heap.size, 0, none⟩) 65 65 _ (by decide)).mono ?_)
  rintro e W9 ⟨rfl, hg9⟩
  have hB9 : Below W8.heap.size W8 W9 := ((Below.refl _ _).alloc (Nat.le_refl _) _).trans (hg9.mono (by simp))
  have L9 := Lib.hid (lon L8.out hB9)
  have HM9 := Lib.hid (HM8.out.below hB9)
  have hb9 : Below w.heap.size w W9 := hb8.trans (hB9.mono (by omega))
  have hs9 := hB9.size
  clear hg9 hB9 kA kB km
  go_wp2_with fail
  have hB10 : Below W9.heap.size W9 (W9.alloc (.cells #[.int .u64 0, .int .u32 0, .bool false] 102)) := (Below.refl _ _).alloc (Nat.le_refl _) _
  have HCk := check_is (A := some ⟨W9.heap.size, 0, none⟩) (c := 1) (l := [⟨0, 0, false⟩]) (e := 2) (w := W9.alloc (.cells #[.int .u64 0, .int .u32 0, .bool false] 102)) (by decide) (fun x hx => by obtain rfl := List.mem_singleton.1 hx; exact ⟨by decide, by decide, by decide, by decide⟩) (lst_of (by simp) (fun j hj => by
    match j, hj with
    | 0, _ => exact World.cell?_alloc_new _ _ _ _
    | 1, _ => exact World.cell?_alloc_new _ _ _ _
    | 2, _ => exact World.cell?_alloc_new _ _ _ _)) (by decide +kernel)
  rw [show ([⟨0, 0, false⟩] : List S3).length = 1 from rfl] at HCk
  (with_reducible refine HCk.mono ?_)
  rintro e W10 ⟨rfl, hg10⟩
  have hC10 : Below W9.heap.size W9 W10 := hB10.trans (hg10.mono (by simp))
  have L10 := Lib.hid (lon L9.out hC10)
  have HM10 := Lib.hid (HM9.out.below hC10)
  have hb10 : Below w.heap.size w W10 := hb9.trans (hC10.mono (by omega))
  have hs10 := hC10.size
  clear hg10 hB10 hC10 HCk
  go_wp2_with fail
  have hB11 : Below W10.heap.size W10 (W10.alloc (.cells #[.int .u64 99, .int .u32 2, .bool false] 102)) := (Below.refl _ _).alloc (Nat.le_refl _) _
  have HIn := in_any (some ⟨W10.heap.size, 0, none⟩) 1 [⟨99, 2, false⟩] (W10.alloc (.cells #[.int .u64 99, .int .u32 2, .bool false] 102)) (HM10.out.below hB11) (by decide) (fun x hx => by obtain rfl := List.mem_singleton.1 hx; exact ⟨by decide, by decide, by decide, by decide⟩) (lst_of (by simp) (fun j hj => by
    match j, hj with
    | 0, _ => exact World.cell?_alloc_new _ _ _ _
    | 1, _ => exact World.cell?_alloc_new _ _ _ _
    | 2, _ => exact World.cell?_alloc_new _ _ _ _))
  rw [show ([⟨99, 2, false⟩] : List S3).length = 1 from rfl, show inL (GmOne.oneM 0 ((100 : Nat) : Int)) 1 [⟨99, 2, false⟩] = 5 from by decide +kernel] at HIn
  (with_reducible refine HIn.mono ?_)
  rintro e W11 ⟨rfl, hg11⟩
  have hC11 : Below W10.heap.size W10 W11 := hB11.trans (hg11.mono (by simp))
  have L11 := Lib.hid (lon L10.out hC11)
  have hb11 : Below w.heap.size w W11 := hb10.trans (hC11.mono (by omega))
  have hs11 := hC11.size
  clear hg11 hB11 hC11 HIn
  go_wp2_with fail
  have HS1 := same_is (A := some ⟨W1.heap.size, 0, none⟩) (A' := some ⟨W1.heap.size, 0, none⟩) (c := 3) (c' := 3) (b := true) (by rw [e3]; decide) (by rw [e3]; decide) L11.out L11.out (sameL_refl T0)
  rw [e3] at HS1
  (with_reducible refine HS1.mono ?_)
  rintro e W12 ⟨rfl, hg12⟩
  have L12 := Lib.hid (lon L11.out hg12)
  have hb12 : Below w.heap.size w W12 := hb11.trans (hg12.mono (by omega))
  have hs12 := hg12.size
  clear hg12 HS1
  go_wp2_with fail
  have HS2 := same_is (A := some ⟨W1.heap.size, 0, none⟩) (A' := none) (c := 3) (c' := 0) (o := []) (b := false) (by rw [e3]; decide) (by decide) L12.out IsRow.none_ (by rfl)
  rw [e3, show ([] : List S3).length = 0 from rfl] at HS2
  (with_reducible refine HS2.mono ?_)
  rintro e W13 ⟨rfl, hg13⟩
  have hb13 : Below w.heap.size w W13 := hb12.trans (hg13.mono (by omega))
  clear hg13 HS2
  go_wp2_with fail
  go_ret
  exact ⟨rfl, hb13⟩

set_option maxRecDepth 100000 in
theorem lifted (os : Os) (started : os.Started) (H : Type) (enc : TypeId × Value → H) :
    ReturnsInHanded {} Try.checked os 9 .any (Rows.segNamesSpec.pre6 enc Try.prog Try.f9 Rows.segNamesRow.domain false) (Rows.segNamesSpec.post enc Try.prog Try.f9 false true false false) := by
  refine Lib.lifted (C := Try.checked) (tb := 4) H enc Lib.own started (by kernel_rfl) Try.func9
    (ChangeSpec.witness6 (enc := enc) (C := Try.checked) false ⟨#[], #[], []⟩ 8 (by kernel_rfl) (by kernel_rfl) (by kernel_rfl) (by kernel_rfl))
    Lib.laidOut (Lib.readable_of (by kernel_rfl)) rfl Try.underlying4 rfl ?_ ?_
  · intro ds h
    match ds, h with
    | [], _ => exact ⟨rfl, rfl, rfl⟩
  · intro W base args ds p hval hA hfz hlt
    rw [Try.params9] at hval
    have hA' : DataW.TrodAll enc Try.prog W 0 (fun _ => true) true Try.f9.params.toList args.toList ds p := hA
    rw [Try.params9] at hA'
    obtain ⟨hargs, rfl, rfl⟩ := trodAll_nil hA'
    obtain rfl : args = #[] := by cases args; simp_all
    exact walk W

theorem over : Rows.segNamesRow.holds Try.pinned (OpenSpec.ofChange Rows.segNamesSpec) :=
  OpenClaim.holds_of_wide 9 Try.f9 rfl rfl rfl rfl rfl rfl rfl ⟨rfl, rfl, rfl, rfl, rfl⟩ rfl rfl rfl rfl rfl (by kernel_rfl) Try.func9 (by kernel_rfl)
    (of_decide_eq_true (by kernel_rfl)) (by unfold Func.isWrapper; first | (rw [if_pos (by decide +kernel)]; kernel_rfl) | (rw [if_neg (by decide +kernel)]; exact ⟨rfl, rfl⟩))
    (fun os started H enc _ => lifted os started H enc)

/-- The statement. -/
theorem proved : Rows.SegNamesSaid :=
  over

end Go.Proofs.Ytohopmccggggbaa.SegNames
