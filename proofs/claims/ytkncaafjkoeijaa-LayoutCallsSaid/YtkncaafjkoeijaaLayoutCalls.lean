
/- The law LayoutCalls: where the parts of rings are is what the document says. For every input; no condition. -/
import Derived.Test.YtkncaafjkoeijaaLayArgs
import Derived.Test.YtkncaafjkoeijaaLayLives
import Derived.Test.YtkncaafjkoeijaaLayFits
import Derived.Test.YtkncaafjkoeijaaLay5
import Derived.Test.YtkncaafjkoeijaaLayR4
import Derived.Test.YtkncaafjkoeijaaLayR5
import Derived.Test.YtkncaafjkoeijaaLayR6
import Derived.Test.YtkncaafjkoeijaaMGm1
namespace Go.Proofs.Ytkncaafjkoeijaa.LayoutCalls
open Go.ChangeShapes Go.WideShapes Go.ChangeAt Go.RowKit Ser Lay GmTwin
set_option linter.unusedVariables false
set_option linter.unusedSimpArgs false

/-- Fits, both, of the same list. -/
def fitsI (p : Bool) (n d v e : Int) (k : Nat) (r : GmFind.Rg) : Int :=
  if checkB p n d v e = true then (if ((GmWord.place (GmNew.stR r) k d (partsI p n).1).isSome && ((GmWord.place (GmNew.stR r) k v (partsI p n).2.1).isSome && (GmWord.place (GmNew.stR r) k e (partsI p n).2.2).isSome)) = true then 0 else 5) else 2
theorem fits_mem (p : Bool) (n d v e : Int) (m k : Nat) (r : GmFind.Rg) (q : Int) (w : World) (h : PMem w m k r) (hd : u64in d) (hv : u64in v) (he : u64in e) (hq : fitsI p n d v e k r = q) :
    Calls Try.prog 73 #[.pointer (some ⟨m, 0, none⟩), ringV p n d v e] w (Gives w.heap.size w (num q)) := by
  subst hq
  unfold fitsI
  cases hc : checkB p n d v e with
  | false => exact fits_bad p n d v e m w h.self h.lt hd hv he hc
  | true =>
    obtain ⟨x, y, z, hp⟩ : ∃ x y z, partsI p n = (x, y, z) := ⟨_, _, _, rfl⟩
    have hin := parts_in (by unfold checkB at hc; simp only [Bool.and_eq_true] at hc; exact hc.1) hp
    rw [hp]
    exact fits_has p n d v e x y z m _ _ _ _ w h.self h.lt hd hv he hc hp (fun W hW => h.has W hW d x hd (by omega)) (fun W hW => h.has W hW v y hv (by omega)) (fun W hW => h.has W hW e z he (by omega)) rfl
theorem r_fits_mem (p : Bool) (n d v e : Int) (m k : Nat) (r : GmFind.Rg) (q : Int) (w : World) (h : QMem w m k r) (hd : u64in d) (hv : u64in v) (he : u64in e) (hq : fitsI p n d v e k r = q) :
    Calls Try.prog 74 #[.pointer (some ⟨m, 0, none⟩), ringV p n d v e] w (Gives w.heap.size w (num q)) := by
  subst hq
  unfold fitsI
  cases hc : checkB p n d v e with
  | false => exact r_fits_bad p n d v e _ w hd hv he hc
  | true =>
    obtain ⟨x, y, z, hp⟩ : ∃ x y z, partsI p n = (x, y, z) := ⟨_, _, _, rfl⟩
    have hin := parts_in (by unfold checkB at hc; simp only [Bool.and_eq_true] at hc; exact hc.1) hp
    rw [hp]
    exact r_fits_is p n d v e x y z _ _ _ _ _ w hd hv he hc hp (fun W hW => h.has W hW d x hd (by omega)) (fun W hW => h.has W hW v y hv (by omega)) (fun W hW => h.has W hW e z he (by omega)) rfl

set_option maxRecDepth 100000 in
set_option maxHeartbeats 16000000 in
theorem walk' (p : Bool) (n d v e what i : Int) (pk : Bool) (size base a m : Int) (A : Option Addr) (k c : Nat) (r : GmFind.Rg) (w : World) (hd : u64in d) (hv : u64in v) (he : u64in e) (hi : (Lit.int .i64 i).wf = true) (hbs : u64in base) (ha : u64in a) (hm : u64in m)
    (hA : A = none → k = 0 ∧ c = 0) (hr : GmCheck.Raw r k) (hl : GmCheck.Lst w w.heap.size A k r) : Calls Try.prog 8 #[ringV p n d v e, num what, num i, .bool pk, num size, u64 base, u64 a, u64 m, .slice A k c] w (Lib.True1 w.heap.size w) := by
  unfold Lib.True1
  have hb0 : Below w.heap.size w w := Below.refl _ _
  have HD := Lib.hid hd
  have HV := Lib.hid hv
  have HE := Lib.hid he
  have HI := Lib.hid hi
  have HB := Lib.hid hbs
  have HAA := Lib.hid ha
  have HM := Lib.hid hm
  have HA := Lib.hid hA
  have HR := Lib.hid hr
  have HL := Lib.hid hl
  have HLI := Lib.hid (fun (W : World) (hb : Below w.heap.size w W) => GmKit.light_any A k c 2000000 r W hr ((Rw.IsRow.below hl hb).more hb.size))
  obtain ⟨x, y, z, hp⟩ : ∃ x y z, partsI p n = (x, y, z) := ⟨_, _, _, rfl⟩
  obtain ⟨ck, hck⟩ : ∃ ck, (if checkB p n d v e = true then (0 : Int) else 2) = ck := ⟨_, rfl⟩
  obtain ⟨ov, hov⟩ : ∃ ov, overB p n d v e a m = ov := ⟨_, rfl⟩
  obtain ⟨q1, q2, q3, hwh⟩ : ∃ q1 q2 q3, whereI p n d v e what i = (q1, q2, q3) := ⟨_, _, _, rfl⟩
  obtain ⟨t1, t2, t3, t4, t5, t6, t7, hpl⟩ : ∃ t1 t2 t3 t4 t5 t6 t7, placeI pk size base = (t1, t2, t3, t4, t5, t6, t7) := ⟨_, _, _, _, _, _, _, rfl⟩
  obtain ⟨fi, hfi⟩ : ∃ fi, fitsI p n d v e k r = fi := ⟨_, rfl⟩
  have HP := Lib.hid hp
  have HCK := Lib.hid hck
  have HOV := Lib.hid hov
  have HWH := Lib.hid hwh
  have HPL := Lib.hid hpl
  have HFI := Lib.hid hfi
  clear hd hv he hi hbs ha hm hA hr hl hp hck hov hwh hpl hfi
  have z1 : (t1 == t1) = true := beq_self_eq_true _
  go_enter Try.func8, Try.ntmps8
  go_wp2_with fail
  refine (lives_any _).mono ?_
  rintro eE W1 ⟨rfl, hg1⟩
  have hb1 : Below w.heap.size w W1 := (show Below w.heap.size w _ by go_grown).trans (hg1.mono (by first | omega | go_size))
  obtain ⟨hc1, hf1⟩ := bcell hg1
  have hs1 := hg1.size
  try simp only [World.size_alloc, World.size_setCell, World.size_drew] at hs1
  have hl1_0_0 : W1.cell? ⟨w.heap.size, 0, none⟩ = some (.bool p) := (hc1 _ _ (by first | omega | go_size)).trans (by first | (with_reducible assumption) | go_cell)
  have hz1_0_0 : W1.frozen? ⟨w.heap.size, 0, none⟩ = false := (hf1 _ _ (by first | omega | go_size)).trans (by first | (with_reducible assumption) | (go_simp; done) | (simp [*]; done))
  have hl1_0_1 : W1.cell? ⟨w.heap.size, 1, none⟩ = some (num n) := (hc1 _ _ (by first | omega | go_size)).trans (by first | (with_reducible assumption) | go_cell)
  have hz1_0_1 : W1.frozen? ⟨w.heap.size, 1, none⟩ = false := (hf1 _ _ (by first | omega | go_size)).trans (by first | (with_reducible assumption) | (go_simp; done) | (simp [*]; done))
  have hl1_0_2 : W1.cell? ⟨w.heap.size, 2, none⟩ = some (u64 d) := (hc1 _ _ (by first | omega | go_size)).trans (by first | (with_reducible assumption) | go_cell)
  have hz1_0_2 : W1.frozen? ⟨w.heap.size, 2, none⟩ = false := (hf1 _ _ (by first | omega | go_size)).trans (by first | (with_reducible assumption) | (go_simp; done) | (simp [*]; done))
  have hl1_0_3 : W1.cell? ⟨w.heap.size, 3, none⟩ = some (u64 v) := (hc1 _ _ (by first | omega | go_size)).trans (by first | (with_reducible assumption) | go_cell)
  have hz1_0_3 : W1.frozen? ⟨w.heap.size, 3, none⟩ = false := (hf1 _ _ (by first | omega | go_size)).trans (by first | (with_reducible assumption) | (go_simp; done) | (simp [*]; done))
  have hl1_0_4 : W1.cell? ⟨w.heap.size, 4, none⟩ = some (u64 e) := (hc1 _ _ (by first | omega | go_size)).trans (by first | (with_reducible assumption) | go_cell)
  have hz1_0_4 : W1.frozen? ⟨w.heap.size, 4, none⟩ = false := (hf1 _ _ (by first | omega | go_size)).trans (by first | (with_reducible assumption) | (go_simp; done) | (simp [*]; done))
  have hk1_0 : w.heap.size < W1.heap.size := by omega
  clear hg1 hc1 hf1
  go_wp2_with fail
  refine (HLI.out W1 hb1).mono ?_
  rintro eE W2 ⟨b, rfl, hb40, rfl⟩
  cases b with
  | false =>
    go_wp2_with fail
    go_ret
    exact ⟨rfl, by go_grown⟩
  | true =>
  have HK := Lib.hid (hb40 rfl)
  clear hb40 HLI
  go_wp2_with fail
  refine (parts_is p n d v e x y z HP.out _).mono ?_
  rintro eE W3 ⟨rfl, hg3⟩
  have hb3 : Below w.heap.size w W3 := (show Below w.heap.size w _ by go_grown).trans (hg3.mono (by first | omega | go_size))
  obtain ⟨hc3, hf3⟩ := bcell hg3
  have hs3 := hg3.size
  try simp only [World.size_alloc, World.size_setCell, World.size_drew] at hs3
  have hl3_0_0 : W3.cell? ⟨w.heap.size, 0, none⟩ = some (.bool p) := (hc3 _ _ (by first | omega | go_size)).trans (by first | (with_reducible assumption) | go_cell)
  have hz3_0_0 : W3.frozen? ⟨w.heap.size, 0, none⟩ = false := (hf3 _ _ (by first | omega | go_size)).trans (by first | (with_reducible assumption) | (go_simp; done) | (simp [*]; done))
  have hl3_0_1 : W3.cell? ⟨w.heap.size, 1, none⟩ = some (num n) := (hc3 _ _ (by first | omega | go_size)).trans (by first | (with_reducible assumption) | go_cell)
  have hz3_0_1 : W3.frozen? ⟨w.heap.size, 1, none⟩ = false := (hf3 _ _ (by first | omega | go_size)).trans (by first | (with_reducible assumption) | (go_simp; done) | (simp [*]; done))
  have hl3_0_2 : W3.cell? ⟨w.heap.size, 2, none⟩ = some (u64 d) := (hc3 _ _ (by first | omega | go_size)).trans (by first | (with_reducible assumption) | go_cell)
  have hz3_0_2 : W3.frozen? ⟨w.heap.size, 2, none⟩ = false := (hf3 _ _ (by first | omega | go_size)).trans (by first | (with_reducible assumption) | (go_simp; done) | (simp [*]; done))
  have hl3_0_3 : W3.cell? ⟨w.heap.size, 3, none⟩ = some (u64 v) := (hc3 _ _ (by first | omega | go_size)).trans (by first | (with_reducible assumption) | go_cell)
  have hz3_0_3 : W3.frozen? ⟨w.heap.size, 3, none⟩ = false := (hf3 _ _ (by first | omega | go_size)).trans (by first | (with_reducible assumption) | (go_simp; done) | (simp [*]; done))
  have hl3_0_4 : W3.cell? ⟨w.heap.size, 4, none⟩ = some (u64 e) := (hc3 _ _ (by first | omega | go_size)).trans (by first | (with_reducible assumption) | go_cell)
  have hz3_0_4 : W3.frozen? ⟨w.heap.size, 4, none⟩ = false := (hf3 _ _ (by first | omega | go_size)).trans (by first | (with_reducible assumption) | (go_simp; done) | (simp [*]; done))
  have hk3_0 : w.heap.size < W3.heap.size := by omega
  clear hg3 hc3 hf3
  go_wp2_with fail
  refine (r_parts_is p n d v e x y z HP.out _).mono ?_
  rintro eE W4 ⟨rfl, hg4⟩
  have hb4 : Below w.heap.size w W4 := (show Below w.heap.size w _ by go_grown).trans (hg4.mono (by first | omega | go_size))
  obtain ⟨hc4, hf4⟩ := bcell hg4
  have hs4 := hg4.size
  try simp only [World.size_alloc, World.size_setCell, World.size_drew] at hs4
  have hl4_0_0 : W4.cell? ⟨w.heap.size, 0, none⟩ = some (.bool p) := (hc4 _ _ (by first | omega | go_size)).trans (by first | (with_reducible assumption) | go_cell)
  have hz4_0_0 : W4.frozen? ⟨w.heap.size, 0, none⟩ = false := (hf4 _ _ (by first | omega | go_size)).trans (by first | (with_reducible assumption) | (go_simp; done) | (simp [*]; done))
  have hl4_0_1 : W4.cell? ⟨w.heap.size, 1, none⟩ = some (num n) := (hc4 _ _ (by first | omega | go_size)).trans (by first | (with_reducible assumption) | go_cell)
  have hz4_0_1 : W4.frozen? ⟨w.heap.size, 1, none⟩ = false := (hf4 _ _ (by first | omega | go_size)).trans (by first | (with_reducible assumption) | (go_simp; done) | (simp [*]; done))
  have hl4_0_2 : W4.cell? ⟨w.heap.size, 2, none⟩ = some (u64 d) := (hc4 _ _ (by first | omega | go_size)).trans (by first | (with_reducible assumption) | go_cell)
  have hz4_0_2 : W4.frozen? ⟨w.heap.size, 2, none⟩ = false := (hf4 _ _ (by first | omega | go_size)).trans (by first | (with_reducible assumption) | (go_simp; done) | (simp [*]; done))
  have hl4_0_3 : W4.cell? ⟨w.heap.size, 3, none⟩ = some (u64 v) := (hc4 _ _ (by first | omega | go_size)).trans (by first | (with_reducible assumption) | go_cell)
  have hz4_0_3 : W4.frozen? ⟨w.heap.size, 3, none⟩ = false := (hf4 _ _ (by first | omega | go_size)).trans (by first | (with_reducible assumption) | (go_simp; done) | (simp [*]; done))
  have hl4_0_4 : W4.cell? ⟨w.heap.size, 4, none⟩ = some (u64 e) := (hc4 _ _ (by first | omega | go_size)).trans (by first | (with_reducible assumption) | go_cell)
  have hz4_0_4 : W4.frozen? ⟨w.heap.size, 4, none⟩ = false := (hf4 _ _ (by first | omega | go_size)).trans (by first | (with_reducible assumption) | (go_simp; done) | (simp [*]; done))
  have hk4_0 : w.heap.size < W4.heap.size := by omega
  clear hg4 hc4 hf4
  go_wp2_with fail
  refine Lib.wp_region_class (Lib.Held w _ [(w.heap.size, 0, (.bool p : Value)), (w.heap.size, 1, (num n : Value)), (w.heap.size, 2, (u64 d : Value)), (w.heap.size, 3, (u64 v : Value)), (w.heap.size, 4, (u64 e : Value))]) (by kernel_rfl) (by kernel_rfl) ⟨by go_grown, Below.refl _ _, ⟨by first | omega | go_size, by first | go_cell | (simp [*]; done), by first | (with_reducible assumption) | (go_simp; done) | (simp [*]; done)⟩, ⟨by first | omega | go_size, by first | go_cell | (simp [*]; done), by first | (with_reducible assumption) | (go_simp; done) | (simp [*]; done)⟩, ⟨by first | omega | go_size, by first | go_cell | (simp [*]; done), by first | (with_reducible assumption) | (go_simp; done) | (simp [*]; done)⟩, ⟨by first | omega | go_size, by first | go_cell | (simp [*]; done), by first | (with_reducible assumption) | (go_simp; done) | (simp [*]; done)⟩, ⟨by first | omega | go_size, by first | go_cell | (simp [*]; done), by first | (with_reducible assumption) | (go_simp; done) | (simp [*]; done)⟩, trivial⟩ ?_
  repeat (first | go_big_quiet_step ((intro hq; first | rfl | (go_at_call 65; exact Lib.Held.call hq (check_is p n d v e ck HD.out HV.out HE.out HCK.out _)) | (go_at_call 66; exact Lib.Held.call hq (r_check_is p n d v e ck HD.out HV.out HE.out HCK.out _)) | (go_at_call 67; exact Lib.Held.call hq (over_is p n d v e a m ov HD.out HV.out HE.out HAA.out HM.out HOV.out _)) | (go_at_call 68; exact Lib.Held.call hq (r_over_is p n d v e a m ov HD.out HV.out HE.out HAA.out HM.out HOV.out _)) | (have hq' := hq; obtain ⟨hbq, heq, ⟨hkq_0, hlq_0, hzq_0⟩, ⟨hkq_1, hlq_1, hzq_1⟩, ⟨hkq_2, hlq_2, hzq_2⟩, ⟨hkq_3, hlq_3, hzq_3⟩, ⟨hkq_4, hlq_4, hzq_4⟩, _⟩ := hq'; go_simp; rfl))) | quiet_step ((intro hq; first | rfl | (go_at_call 65; exact Lib.Held.call hq (check_is p n d v e ck HD.out HV.out HE.out HCK.out _)) | (go_at_call 66; exact Lib.Held.call hq (r_check_is p n d v e ck HD.out HV.out HE.out HCK.out _)) | (go_at_call 67; exact Lib.Held.call hq (over_is p n d v e a m ov HD.out HV.out HE.out HAA.out HM.out HOV.out _)) | (go_at_call 68; exact Lib.Held.call hq (r_over_is p n d v e a m ov HD.out HV.out HE.out HAA.out HM.out HOV.out _)) | (have hq' := hq; obtain ⟨hbq, heq, ⟨hkq_0, hlq_0, hzq_0⟩, ⟨hkq_1, hlq_1, hzq_1⟩, ⟨hkq_2, hlq_2, hzq_2⟩, ⟨hkq_3, hlq_3, hzq_3⟩, ⟨hkq_4, hlq_4, hzq_4⟩, _⟩ := hq'; go_simp; rfl))))
  refine wpQuiet_nil ?_
  intro W5 hq5
  obtain ⟨hb5, he5, ⟨hk5_0, hl5_0, hz5_0⟩, ⟨hk5_1, hl5_1, hz5_1⟩, ⟨hk5_2, hl5_2, hz5_2⟩, ⟨hk5_3, hl5_3, hz5_3⟩, ⟨hk5_4, hl5_4, hz5_4⟩, _⟩ := hq5
  have hs5 := he5.size
  try simp only [World.size_alloc, World.size_setCell, World.size_drew] at hs5
  go_wp2_with fail
  refine (where_is p n d v e what i q1 q2 q3 HD.out HV.out HE.out HI.out HWH.out _).mono ?_
  rintro eE W6 ⟨rfl, hg6⟩
  have hb6 : Below w.heap.size w W6 := (show Below w.heap.size w _ by go_grown).trans (hg6.mono (by first | omega | go_size))
  obtain ⟨hc6, hf6⟩ := bcell hg6
  have hs6 := hg6.size
  try simp only [World.size_alloc, World.size_setCell, World.size_drew] at hs6
  have hl6_0_0 : W6.cell? ⟨w.heap.size, 0, none⟩ = some (.bool p) := (hc6 _ _ (by first | omega | go_size)).trans (by first | (with_reducible assumption) | go_cell)
  have hz6_0_0 : W6.frozen? ⟨w.heap.size, 0, none⟩ = false := (hf6 _ _ (by first | omega | go_size)).trans (by first | (with_reducible assumption) | (go_simp; done) | (simp [*]; done))
  have hl6_0_1 : W6.cell? ⟨w.heap.size, 1, none⟩ = some (num n) := (hc6 _ _ (by first | omega | go_size)).trans (by first | (with_reducible assumption) | go_cell)
  have hz6_0_1 : W6.frozen? ⟨w.heap.size, 1, none⟩ = false := (hf6 _ _ (by first | omega | go_size)).trans (by first | (with_reducible assumption) | (go_simp; done) | (simp [*]; done))
  have hl6_0_2 : W6.cell? ⟨w.heap.size, 2, none⟩ = some (u64 d) := (hc6 _ _ (by first | omega | go_size)).trans (by first | (with_reducible assumption) | go_cell)
  have hz6_0_2 : W6.frozen? ⟨w.heap.size, 2, none⟩ = false := (hf6 _ _ (by first | omega | go_size)).trans (by first | (with_reducible assumption) | (go_simp; done) | (simp [*]; done))
  have hl6_0_3 : W6.cell? ⟨w.heap.size, 3, none⟩ = some (u64 v) := (hc6 _ _ (by first | omega | go_size)).trans (by first | (with_reducible assumption) | go_cell)
  have hz6_0_3 : W6.frozen? ⟨w.heap.size, 3, none⟩ = false := (hf6 _ _ (by first | omega | go_size)).trans (by first | (with_reducible assumption) | (go_simp; done) | (simp [*]; done))
  have hl6_0_4 : W6.cell? ⟨w.heap.size, 4, none⟩ = some (u64 e) := (hc6 _ _ (by first | omega | go_size)).trans (by first | (with_reducible assumption) | go_cell)
  have hz6_0_4 : W6.frozen? ⟨w.heap.size, 4, none⟩ = false := (hf6 _ _ (by first | omega | go_size)).trans (by first | (with_reducible assumption) | (go_simp; done) | (simp [*]; done))
  have hk6_0 : w.heap.size < W6.heap.size := by omega
  clear hg6 hc6 hf6
  go_wp2_with fail
  refine (r_where_is p n d v e what i q1 q2 q3 HD.out HV.out HE.out HI.out HWH.out _).mono ?_
  rintro eE W7 ⟨rfl, hg7⟩
  have hb7 : Below w.heap.size w W7 := (show Below w.heap.size w _ by go_grown).trans (hg7.mono (by first | omega | go_size))
  obtain ⟨hc7, hf7⟩ := bcell hg7
  have hs7 := hg7.size
  try simp only [World.size_alloc, World.size_setCell, World.size_drew] at hs7
  have hl7_0_0 : W7.cell? ⟨w.heap.size, 0, none⟩ = some (.bool p) := (hc7 _ _ (by first | omega | go_size)).trans (by first | (with_reducible assumption) | go_cell)
  have hz7_0_0 : W7.frozen? ⟨w.heap.size, 0, none⟩ = false := (hf7 _ _ (by first | omega | go_size)).trans (by first | (with_reducible assumption) | (go_simp; done) | (simp [*]; done))
  have hl7_0_1 : W7.cell? ⟨w.heap.size, 1, none⟩ = some (num n) := (hc7 _ _ (by first | omega | go_size)).trans (by first | (with_reducible assumption) | go_cell)
  have hz7_0_1 : W7.frozen? ⟨w.heap.size, 1, none⟩ = false := (hf7 _ _ (by first | omega | go_size)).trans (by first | (with_reducible assumption) | (go_simp; done) | (simp [*]; done))
  have hl7_0_2 : W7.cell? ⟨w.heap.size, 2, none⟩ = some (u64 d) := (hc7 _ _ (by first | omega | go_size)).trans (by first | (with_reducible assumption) | go_cell)
  have hz7_0_2 : W7.frozen? ⟨w.heap.size, 2, none⟩ = false := (hf7 _ _ (by first | omega | go_size)).trans (by first | (with_reducible assumption) | (go_simp; done) | (simp [*]; done))
  have hl7_0_3 : W7.cell? ⟨w.heap.size, 3, none⟩ = some (u64 v) := (hc7 _ _ (by first | omega | go_size)).trans (by first | (with_reducible assumption) | go_cell)
  have hz7_0_3 : W7.frozen? ⟨w.heap.size, 3, none⟩ = false := (hf7 _ _ (by first | omega | go_size)).trans (by first | (with_reducible assumption) | (go_simp; done) | (simp [*]; done))
  have hl7_0_4 : W7.cell? ⟨w.heap.size, 4, none⟩ = some (u64 e) := (hc7 _ _ (by first | omega | go_size)).trans (by first | (with_reducible assumption) | go_cell)
  have hz7_0_4 : W7.frozen? ⟨w.heap.size, 4, none⟩ = false := (hf7 _ _ (by first | omega | go_size)).trans (by first | (with_reducible assumption) | (go_simp; done) | (simp [*]; done))
  have hk7_0 : w.heap.size < W7.heap.size := by omega
  clear hg7 hc7 hf7
  go_wp2_with fail
  refine (place_is pk size base (t1, t2, t3, t4, t5, t6, t7) HB.out HPL.out _).mono ?_
  rintro eE W8 ⟨rfl, hg8⟩
  have hb8 : Below w.heap.size w W8 := (show Below w.heap.size w _ by go_grown).trans (hg8.mono (by first | omega | go_size))
  obtain ⟨hc8, hf8⟩ := bcell hg8
  have hs8 := hg8.size
  try simp only [World.size_alloc, World.size_setCell, World.size_drew] at hs8
  have hl8_0_0 : W8.cell? ⟨w.heap.size, 0, none⟩ = some (.bool p) := (hc8 _ _ (by first | omega | go_size)).trans (by first | (with_reducible assumption) | go_cell)
  have hz8_0_0 : W8.frozen? ⟨w.heap.size, 0, none⟩ = false := (hf8 _ _ (by first | omega | go_size)).trans (by first | (with_reducible assumption) | (go_simp; done) | (simp [*]; done))
  have hl8_0_1 : W8.cell? ⟨w.heap.size, 1, none⟩ = some (num n) := (hc8 _ _ (by first | omega | go_size)).trans (by first | (with_reducible assumption) | go_cell)
  have hz8_0_1 : W8.frozen? ⟨w.heap.size, 1, none⟩ = false := (hf8 _ _ (by first | omega | go_size)).trans (by first | (with_reducible assumption) | (go_simp; done) | (simp [*]; done))
  have hl8_0_2 : W8.cell? ⟨w.heap.size, 2, none⟩ = some (u64 d) := (hc8 _ _ (by first | omega | go_size)).trans (by first | (with_reducible assumption) | go_cell)
  have hz8_0_2 : W8.frozen? ⟨w.heap.size, 2, none⟩ = false := (hf8 _ _ (by first | omega | go_size)).trans (by first | (with_reducible assumption) | (go_simp; done) | (simp [*]; done))
  have hl8_0_3 : W8.cell? ⟨w.heap.size, 3, none⟩ = some (u64 v) := (hc8 _ _ (by first | omega | go_size)).trans (by first | (with_reducible assumption) | go_cell)
  have hz8_0_3 : W8.frozen? ⟨w.heap.size, 3, none⟩ = false := (hf8 _ _ (by first | omega | go_size)).trans (by first | (with_reducible assumption) | (go_simp; done) | (simp [*]; done))
  have hl8_0_4 : W8.cell? ⟨w.heap.size, 4, none⟩ = some (u64 e) := (hc8 _ _ (by first | omega | go_size)).trans (by first | (with_reducible assumption) | go_cell)
  have hz8_0_4 : W8.frozen? ⟨w.heap.size, 4, none⟩ = false := (hf8 _ _ (by first | omega | go_size)).trans (by first | (with_reducible assumption) | (go_simp; done) | (simp [*]; done))
  have hk8_0 : w.heap.size < W8.heap.size := by omega
  clear hg8 hc8 hf8
  go_wp2_with fail
  refine (r_place_is pk size base (t1, t2, t3, t4, t5, t6, t7) HB.out HPL.out _).mono ?_
  rintro eE W9 ⟨rfl, hg9⟩
  have hb9 : Below w.heap.size w W9 := (show Below w.heap.size w _ by go_grown).trans (hg9.mono (by first | omega | go_size))
  obtain ⟨hc9, hf9⟩ := bcell hg9
  have hs9 := hg9.size
  try simp only [World.size_alloc, World.size_setCell, World.size_drew] at hs9
  have hl9_0_0 : W9.cell? ⟨w.heap.size, 0, none⟩ = some (.bool p) := (hc9 _ _ (by first | omega | go_size)).trans (by first | (with_reducible assumption) | go_cell)
  have hz9_0_0 : W9.frozen? ⟨w.heap.size, 0, none⟩ = false := (hf9 _ _ (by first | omega | go_size)).trans (by first | (with_reducible assumption) | (go_simp; done) | (simp [*]; done))
  have hl9_0_1 : W9.cell? ⟨w.heap.size, 1, none⟩ = some (num n) := (hc9 _ _ (by first | omega | go_size)).trans (by first | (with_reducible assumption) | go_cell)
  have hz9_0_1 : W9.frozen? ⟨w.heap.size, 1, none⟩ = false := (hf9 _ _ (by first | omega | go_size)).trans (by first | (with_reducible assumption) | (go_simp; done) | (simp [*]; done))
  have hl9_0_2 : W9.cell? ⟨w.heap.size, 2, none⟩ = some (u64 d) := (hc9 _ _ (by first | omega | go_size)).trans (by first | (with_reducible assumption) | go_cell)
  have hz9_0_2 : W9.frozen? ⟨w.heap.size, 2, none⟩ = false := (hf9 _ _ (by first | omega | go_size)).trans (by first | (with_reducible assumption) | (go_simp; done) | (simp [*]; done))
  have hl9_0_3 : W9.cell? ⟨w.heap.size, 3, none⟩ = some (u64 v) := (hc9 _ _ (by first | omega | go_size)).trans (by first | (with_reducible assumption) | go_cell)
  have hz9_0_3 : W9.frozen? ⟨w.heap.size, 3, none⟩ = false := (hf9 _ _ (by first | omega | go_size)).trans (by first | (with_reducible assumption) | (go_simp; done) | (simp [*]; done))
  have hl9_0_4 : W9.cell? ⟨w.heap.size, 4, none⟩ = some (u64 e) := (hc9 _ _ (by first | omega | go_size)).trans (by first | (with_reducible assumption) | go_cell)
  have hz9_0_4 : W9.frozen? ⟨w.heap.size, 4, none⟩ = false := (hf9 _ _ (by first | omega | go_size)).trans (by first | (with_reducible assumption) | (go_simp; done) | (simp [*]; done))
  have hk9_0 : w.heap.size < W9.heap.size := by omega
  have hl9_1_0 : W9.cell? ⟨W8.heap.size, 0, none⟩ = some (.bool t1) := (hc9 _ _ (by first | omega | go_size)).trans (by first | (with_reducible assumption) | go_cell)
  have hz9_1_0 : W9.frozen? ⟨W8.heap.size, 0, none⟩ = false := (hf9 _ _ (by first | omega | go_size)).trans (by first | (with_reducible assumption) | (go_simp; done) | (simp [*]; done))
  have hl9_1_1 : W9.cell? ⟨W8.heap.size, 1, none⟩ = some (num t2) := (hc9 _ _ (by first | omega | go_size)).trans (by first | (with_reducible assumption) | go_cell)
  have hz9_1_1 : W9.frozen? ⟨W8.heap.size, 1, none⟩ = false := (hf9 _ _ (by first | omega | go_size)).trans (by first | (with_reducible assumption) | (go_simp; done) | (simp [*]; done))
  have hl9_1_2 : W9.cell? ⟨W8.heap.size, 2, none⟩ = some (u64 t3) := (hc9 _ _ (by first | omega | go_size)).trans (by first | (with_reducible assumption) | go_cell)
  have hz9_1_2 : W9.frozen? ⟨W8.heap.size, 2, none⟩ = false := (hf9 _ _ (by first | omega | go_size)).trans (by first | (with_reducible assumption) | (go_simp; done) | (simp [*]; done))
  have hl9_1_3 : W9.cell? ⟨W8.heap.size, 3, none⟩ = some (u64 t4) := (hc9 _ _ (by first | omega | go_size)).trans (by first | (with_reducible assumption) | go_cell)
  have hz9_1_3 : W9.frozen? ⟨W8.heap.size, 3, none⟩ = false := (hf9 _ _ (by first | omega | go_size)).trans (by first | (with_reducible assumption) | (go_simp; done) | (simp [*]; done))
  have hl9_1_4 : W9.cell? ⟨W8.heap.size, 4, none⟩ = some (u64 t5) := (hc9 _ _ (by first | omega | go_size)).trans (by first | (with_reducible assumption) | go_cell)
  have hz9_1_4 : W9.frozen? ⟨W8.heap.size, 4, none⟩ = false := (hf9 _ _ (by first | omega | go_size)).trans (by first | (with_reducible assumption) | (go_simp; done) | (simp [*]; done))
  have hk9_1 : W8.heap.size < W9.heap.size := by omega
  clear hg9 hc9 hf9
  go_wp2_with fail
  have hbsz := hb9.size
  refine (regions_any A k c r _ (by have := HK.out; omega) (fun h => (HA.out h).2) ?_).mono ?_
  · exact (Rw.IsRow.below HL.out (by go_grown)).more (by first | omega | go_size)
  rintro eE W11 ⟨A', c', rfl, hl11, hg11⟩
  have HL11 := Lib.hid hl11
  clear hl11
  have hb11 : Below w.heap.size w W11 := (show Below w.heap.size w _ by go_grown).trans (hg11.mono (by first | omega | go_size))
  obtain ⟨hc11, hf11⟩ := bcell hg11
  have hs11 := hg11.size
  try simp only [World.size_alloc, World.size_setCell, World.size_drew] at hs11
  have hl11_0_0 : W11.cell? ⟨w.heap.size, 0, none⟩ = some (.bool p) := (hc11 _ _ (by first | omega | go_size)).trans (by first | (with_reducible assumption) | go_cell)
  have hz11_0_0 : W11.frozen? ⟨w.heap.size, 0, none⟩ = false := (hf11 _ _ (by first | omega | go_size)).trans (by first | (with_reducible assumption) | (go_simp; done) | (simp [*]; done))
  have hl11_0_1 : W11.cell? ⟨w.heap.size, 1, none⟩ = some (num n) := (hc11 _ _ (by first | omega | go_size)).trans (by first | (with_reducible assumption) | go_cell)
  have hz11_0_1 : W11.frozen? ⟨w.heap.size, 1, none⟩ = false := (hf11 _ _ (by first | omega | go_size)).trans (by first | (with_reducible assumption) | (go_simp; done) | (simp [*]; done))
  have hl11_0_2 : W11.cell? ⟨w.heap.size, 2, none⟩ = some (u64 d) := (hc11 _ _ (by first | omega | go_size)).trans (by first | (with_reducible assumption) | go_cell)
  have hz11_0_2 : W11.frozen? ⟨w.heap.size, 2, none⟩ = false := (hf11 _ _ (by first | omega | go_size)).trans (by first | (with_reducible assumption) | (go_simp; done) | (simp [*]; done))
  have hl11_0_3 : W11.cell? ⟨w.heap.size, 3, none⟩ = some (u64 v) := (hc11 _ _ (by first | omega | go_size)).trans (by first | (with_reducible assumption) | go_cell)
  have hz11_0_3 : W11.frozen? ⟨w.heap.size, 3, none⟩ = false := (hf11 _ _ (by first | omega | go_size)).trans (by first | (with_reducible assumption) | (go_simp; done) | (simp [*]; done))
  have hl11_0_4 : W11.cell? ⟨w.heap.size, 4, none⟩ = some (u64 e) := (hc11 _ _ (by first | omega | go_size)).trans (by first | (with_reducible assumption) | go_cell)
  have hz11_0_4 : W11.frozen? ⟨w.heap.size, 4, none⟩ = false := (hf11 _ _ (by first | omega | go_size)).trans (by first | (with_reducible assumption) | (go_simp; done) | (simp [*]; done))
  have hk11_0 : w.heap.size < W11.heap.size := by omega
  clear hg11 hc11 hf11
  go_wp2_with fail
  by_cases hg : GmTwin.Good k r
  · have HG := Lib.hid hg
    clear hg
    refine (new_good A' k c' r _ HR.out HG.out HL11.out).mono ?_
    rintro eE W12 ⟨m1, rfl, hm1, hg12⟩
    have HM1 := Lib.hid hm1
    clear hm1
    have hb12 : Below w.heap.size w W12 := (show Below w.heap.size w _ by go_grown).trans (hg12.mono (by first | omega | go_size))
    obtain ⟨hc12, hf12⟩ := bcell hg12
    have hs12 := hg12.size
    try simp only [World.size_alloc, World.size_setCell, World.size_drew] at hs12
    have hl12_0_0 : W12.cell? ⟨w.heap.size, 0, none⟩ = some (.bool p) := (hc12 _ _ (by first | omega | go_size)).trans (by first | (with_reducible assumption) | go_cell)
    have hz12_0_0 : W12.frozen? ⟨w.heap.size, 0, none⟩ = false := (hf12 _ _ (by first | omega | go_size)).trans (by first | (with_reducible assumption) | (go_simp; done) | (simp [*]; done))
    have hl12_0_1 : W12.cell? ⟨w.heap.size, 1, none⟩ = some (num n) := (hc12 _ _ (by first | omega | go_size)).trans (by first | (with_reducible assumption) | go_cell)
    have hz12_0_1 : W12.frozen? ⟨w.heap.size, 1, none⟩ = false := (hf12 _ _ (by first | omega | go_size)).trans (by first | (with_reducible assumption) | (go_simp; done) | (simp [*]; done))
    have hl12_0_2 : W12.cell? ⟨w.heap.size, 2, none⟩ = some (u64 d) := (hc12 _ _ (by first | omega | go_size)).trans (by first | (with_reducible assumption) | go_cell)
    have hz12_0_2 : W12.frozen? ⟨w.heap.size, 2, none⟩ = false := (hf12 _ _ (by first | omega | go_size)).trans (by first | (with_reducible assumption) | (go_simp; done) | (simp [*]; done))
    have hl12_0_3 : W12.cell? ⟨w.heap.size, 3, none⟩ = some (u64 v) := (hc12 _ _ (by first | omega | go_size)).trans (by first | (with_reducible assumption) | go_cell)
    have hz12_0_3 : W12.frozen? ⟨w.heap.size, 3, none⟩ = false := (hf12 _ _ (by first | omega | go_size)).trans (by first | (with_reducible assumption) | (go_simp; done) | (simp [*]; done))
    have hl12_0_4 : W12.cell? ⟨w.heap.size, 4, none⟩ = some (u64 e) := (hc12 _ _ (by first | omega | go_size)).trans (by first | (with_reducible assumption) | go_cell)
    have hz12_0_4 : W12.frozen? ⟨w.heap.size, 4, none⟩ = false := (hf12 _ _ (by first | omega | go_size)).trans (by first | (with_reducible assumption) | (go_simp; done) | (simp [*]; done))
    have hk12_0 : w.heap.size < W12.heap.size := by omega
    clear hg12 hc12 hf12
    go_wp2_with fail
    have HL12 := Lib.hid (show GmCheck.Lst W12 W12.heap.size A k r from (Rw.IsRow.below HL.out hb12).more hb12.size)
    refine (r_new_good A k c r _ HR.out HG.out (fun h => (HA.out h).2) HL12.out).mono ?_
    rintro eE W13 ⟨m2, rfl, hm2, hg13⟩
    have HM2 := Lib.hid hm2
    have HM1' := Lib.hid (show PMem W13 m1 k r from ⟨(hg13.cell (p := ⟨m1, 0, none⟩) HM1.out.lt).trans HM1.out.self, Nat.lt_of_lt_of_le HM1.out.lt hg13.size, fun W hW => HM1.out.has W (hg13.trans (hW.mono hg13.size))⟩)
    clear hm2
    have hb13 : Below w.heap.size w W13 := (show Below w.heap.size w _ by go_grown).trans (hg13.mono (by first | omega | go_size))
    obtain ⟨hc13, hf13⟩ := bcell hg13
    have hs13 := hg13.size
    try simp only [World.size_alloc, World.size_setCell, World.size_drew] at hs13
    have hl13_0_0 : W13.cell? ⟨w.heap.size, 0, none⟩ = some (.bool p) := (hc13 _ _ (by first | omega | go_size)).trans (by first | (with_reducible assumption) | go_cell)
    have hz13_0_0 : W13.frozen? ⟨w.heap.size, 0, none⟩ = false := (hf13 _ _ (by first | omega | go_size)).trans (by first | (with_reducible assumption) | (go_simp; done) | (simp [*]; done))
    have hl13_0_1 : W13.cell? ⟨w.heap.size, 1, none⟩ = some (num n) := (hc13 _ _ (by first | omega | go_size)).trans (by first | (with_reducible assumption) | go_cell)
    have hz13_0_1 : W13.frozen? ⟨w.heap.size, 1, none⟩ = false := (hf13 _ _ (by first | omega | go_size)).trans (by first | (with_reducible assumption) | (go_simp; done) | (simp [*]; done))
    have hl13_0_2 : W13.cell? ⟨w.heap.size, 2, none⟩ = some (u64 d) := (hc13 _ _ (by first | omega | go_size)).trans (by first | (with_reducible assumption) | go_cell)
    have hz13_0_2 : W13.frozen? ⟨w.heap.size, 2, none⟩ = false := (hf13 _ _ (by first | omega | go_size)).trans (by first | (with_reducible assumption) | (go_simp; done) | (simp [*]; done))
    have hl13_0_3 : W13.cell? ⟨w.heap.size, 3, none⟩ = some (u64 v) := (hc13 _ _ (by first | omega | go_size)).trans (by first | (with_reducible assumption) | go_cell)
    have hz13_0_3 : W13.frozen? ⟨w.heap.size, 3, none⟩ = false := (hf13 _ _ (by first | omega | go_size)).trans (by first | (with_reducible assumption) | (go_simp; done) | (simp [*]; done))
    have hl13_0_4 : W13.cell? ⟨w.heap.size, 4, none⟩ = some (u64 e) := (hc13 _ _ (by first | omega | go_size)).trans (by first | (with_reducible assumption) | go_cell)
    have hz13_0_4 : W13.frozen? ⟨w.heap.size, 4, none⟩ = false := (hf13 _ _ (by first | omega | go_size)).trans (by first | (with_reducible assumption) | (go_simp; done) | (simp [*]; done))
    have hk13_0 : w.heap.size < W13.heap.size := by omega
    clear hg13 hc13 hf13
    go_wp2_with fail
    have HPF := Lib.hid (fun (W : World) (hW : Below W13.heap.size W13 W) => fits_mem p n d v e m1 k r fi W ⟨(hW.cell (p := ⟨m1, 0, none⟩) HM1'.out.lt).trans HM1'.out.self, Nat.lt_of_lt_of_le HM1'.out.lt hW.size, fun V hV => HM1'.out.has V (hW.trans (hV.mono hW.size))⟩ HD.out HV.out HE.out HFI.out)
    have HQF := Lib.hid (fun (W : World) (hW : Below W13.heap.size W13 W) => r_fits_mem p n d v e m2 k r fi W ⟨fun V hV => HM2.out.has V (hW.trans (hV.mono hW.size))⟩ HD.out HV.out HE.out HFI.out)
    have hb0z : Below W13.heap.size W13 W13 := Below.refl _ _
    refine Lib.wp_region_class (Lib.Held W13 _ [(w.heap.size, 0, (.bool p : Value)), (w.heap.size, 1, (num n : Value)), (w.heap.size, 2, (u64 d : Value)), (w.heap.size, 3, (u64 v : Value)), (w.heap.size, 4, (u64 e : Value))]) (by kernel_rfl) (by kernel_rfl) ⟨by go_grown, Below.refl _ _, ⟨by first | omega | go_size, by first | go_cell | (simp [*]; done), by first | (with_reducible assumption) | (go_simp; done) | (simp [*]; done)⟩, ⟨by first | omega | go_size, by first | go_cell | (simp [*]; done), by first | (with_reducible assumption) | (go_simp; done) | (simp [*]; done)⟩, ⟨by first | omega | go_size, by first | go_cell | (simp [*]; done), by first | (with_reducible assumption) | (go_simp; done) | (simp [*]; done)⟩, ⟨by first | omega | go_size, by first | go_cell | (simp [*]; done), by first | (with_reducible assumption) | (go_simp; done) | (simp [*]; done)⟩, ⟨by first | omega | go_size, by first | go_cell | (simp [*]; done), by first | (with_reducible assumption) | (go_simp; done) | (simp [*]; done)⟩, trivial⟩ ?_
    repeat (first | go_big_quiet_step ((intro hq; first | rfl | (go_at_call 73; exact Lib.Held.call hq (HPF.out _ hq.1)) | (go_at_call 74; exact Lib.Held.call hq (HQF.out _ hq.1)) | (have hq' := hq; obtain ⟨hbq, heq, ⟨hkq_0, hlq_0, hzq_0⟩, ⟨hkq_1, hlq_1, hzq_1⟩, ⟨hkq_2, hlq_2, hzq_2⟩, ⟨hkq_3, hlq_3, hzq_3⟩, ⟨hkq_4, hlq_4, hzq_4⟩, _⟩ := hq'; go_simp; rfl))) | quiet_step ((intro hq; first | rfl | (go_at_call 73; exact Lib.Held.call hq (HPF.out _ hq.1)) | (go_at_call 74; exact Lib.Held.call hq (HQF.out _ hq.1)) | (have hq' := hq; obtain ⟨hbq, heq, ⟨hkq_0, hlq_0, hzq_0⟩, ⟨hkq_1, hlq_1, hzq_1⟩, ⟨hkq_2, hlq_2, hzq_2⟩, ⟨hkq_3, hlq_3, hzq_3⟩, ⟨hkq_4, hlq_4, hzq_4⟩, _⟩ := hq'; go_simp; rfl))))
    refine wpQuiet_nil ?_
    intro W14 hq14
    obtain ⟨hb14, he14, ⟨hk14_0, hl14_0, hz14_0⟩, ⟨hk14_1, hl14_1, hz14_1⟩, ⟨hk14_2, hl14_2, hz14_2⟩, ⟨hk14_3, hl14_3, hz14_3⟩, ⟨hk14_4, hl14_4, hz14_4⟩, _⟩ := hq14
    have hs14 := he14.size
    try simp only [World.size_alloc, World.size_setCell, World.size_drew] at hs14
    go_wp2_with fail
    go_ret
    exact ⟨rfl, hb13.trans (hb14.mono hb13.size)⟩
  · have HG := Lib.hid hg
    clear hg
    refine (new_bad A' k c' r _ HR.out HG.out HL11.out).mono ?_
    rintro eE W12 ⟨rfl, hg12⟩
    have hb12 : Below w.heap.size w W12 := (show Below w.heap.size w _ by go_grown).trans (hg12.mono (by first | omega | go_size))
    obtain ⟨hc12, hf12⟩ := bcell hg12
    have hs12 := hg12.size
    try simp only [World.size_alloc, World.size_setCell, World.size_drew] at hs12
    have hl12_0_0 : W12.cell? ⟨w.heap.size, 0, none⟩ = some (.bool p) := (hc12 _ _ (by first | omega | go_size)).trans (by first | (with_reducible assumption) | go_cell)
    have hz12_0_0 : W12.frozen? ⟨w.heap.size, 0, none⟩ = false := (hf12 _ _ (by first | omega | go_size)).trans (by first | (with_reducible assumption) | (go_simp; done) | (simp [*]; done))
    have hl12_0_1 : W12.cell? ⟨w.heap.size, 1, none⟩ = some (num n) := (hc12 _ _ (by first | omega | go_size)).trans (by first | (with_reducible assumption) | go_cell)
    have hz12_0_1 : W12.frozen? ⟨w.heap.size, 1, none⟩ = false := (hf12 _ _ (by first | omega | go_size)).trans (by first | (with_reducible assumption) | (go_simp; done) | (simp [*]; done))
    have hl12_0_2 : W12.cell? ⟨w.heap.size, 2, none⟩ = some (u64 d) := (hc12 _ _ (by first | omega | go_size)).trans (by first | (with_reducible assumption) | go_cell)
    have hz12_0_2 : W12.frozen? ⟨w.heap.size, 2, none⟩ = false := (hf12 _ _ (by first | omega | go_size)).trans (by first | (with_reducible assumption) | (go_simp; done) | (simp [*]; done))
    have hl12_0_3 : W12.cell? ⟨w.heap.size, 3, none⟩ = some (u64 v) := (hc12 _ _ (by first | omega | go_size)).trans (by first | (with_reducible assumption) | go_cell)
    have hz12_0_3 : W12.frozen? ⟨w.heap.size, 3, none⟩ = false := (hf12 _ _ (by first | omega | go_size)).trans (by first | (with_reducible assumption) | (go_simp; done) | (simp [*]; done))
    have hl12_0_4 : W12.cell? ⟨w.heap.size, 4, none⟩ = some (u64 e) := (hc12 _ _ (by first | omega | go_size)).trans (by first | (with_reducible assumption) | go_cell)
    have hz12_0_4 : W12.frozen? ⟨w.heap.size, 4, none⟩ = false := (hf12 _ _ (by first | omega | go_size)).trans (by first | (with_reducible assumption) | (go_simp; done) | (simp [*]; done))
    have hk12_0 : w.heap.size < W12.heap.size := by omega
    clear hg12 hc12 hf12
    go_wp2_with fail
    have HL12 := Lib.hid (show GmCheck.Lst W12 W12.heap.size A k r from (Rw.IsRow.below HL.out hb12).more hb12.size)
    refine (r_new_bad A k c r _ HR.out HG.out HL12.out).mono ?_
    rintro eE W13 ⟨rfl, hg13⟩
    have hb13 : Below w.heap.size w W13 := (show Below w.heap.size w _ by go_grown).trans (hg13.mono (by first | omega | go_size))
    obtain ⟨hc13, hf13⟩ := bcell hg13
    have hs13 := hg13.size
    try simp only [World.size_alloc, World.size_setCell, World.size_drew] at hs13
    have hl13_0_0 : W13.cell? ⟨w.heap.size, 0, none⟩ = some (.bool p) := (hc13 _ _ (by first | omega | go_size)).trans (by first | (with_reducible assumption) | go_cell)
    have hz13_0_0 : W13.frozen? ⟨w.heap.size, 0, none⟩ = false := (hf13 _ _ (by first | omega | go_size)).trans (by first | (with_reducible assumption) | (go_simp; done) | (simp [*]; done))
    have hl13_0_1 : W13.cell? ⟨w.heap.size, 1, none⟩ = some (num n) := (hc13 _ _ (by first | omega | go_size)).trans (by first | (with_reducible assumption) | go_cell)
    have hz13_0_1 : W13.frozen? ⟨w.heap.size, 1, none⟩ = false := (hf13 _ _ (by first | omega | go_size)).trans (by first | (with_reducible assumption) | (go_simp; done) | (simp [*]; done))
    have hl13_0_2 : W13.cell? ⟨w.heap.size, 2, none⟩ = some (u64 d) := (hc13 _ _ (by first | omega | go_size)).trans (by first | (with_reducible assumption) | go_cell)
    have hz13_0_2 : W13.frozen? ⟨w.heap.size, 2, none⟩ = false := (hf13 _ _ (by first | omega | go_size)).trans (by first | (with_reducible assumption) | (go_simp; done) | (simp [*]; done))
    have hl13_0_3 : W13.cell? ⟨w.heap.size, 3, none⟩ = some (u64 v) := (hc13 _ _ (by first | omega | go_size)).trans (by first | (with_reducible assumption) | go_cell)
    have hz13_0_3 : W13.frozen? ⟨w.heap.size, 3, none⟩ = false := (hf13 _ _ (by first | omega | go_size)).trans (by first | (with_reducible assumption) | (go_simp; done) | (simp [*]; done))
    have hl13_0_4 : W13.cell? ⟨w.heap.size, 4, none⟩ = some (u64 e) := (hc13 _ _ (by first | omega | go_size)).trans (by first | (with_reducible assumption) | go_cell)
    have hz13_0_4 : W13.frozen? ⟨w.heap.size, 4, none⟩ = false := (hf13 _ _ (by first | omega | go_size)).trans (by first | (with_reducible assumption) | (go_simp; done) | (simp [*]; done))
    have hk13_0 : w.heap.size < W13.heap.size := by omega
    clear hg13 hc13 hf13
    go_wp2_with fail
    refine Lib.wp_region_class (Lib.Held w _ [(w.heap.size, 0, (.bool p : Value)), (w.heap.size, 1, (num n : Value)), (w.heap.size, 2, (u64 d : Value)), (w.heap.size, 3, (u64 v : Value)), (w.heap.size, 4, (u64 e : Value))]) (by kernel_rfl) (by kernel_rfl) ⟨by go_grown, Below.refl _ _, ⟨by first | omega | go_size, by first | go_cell | (simp [*]; done), by first | (with_reducible assumption) | (go_simp; done) | (simp [*]; done)⟩, ⟨by first | omega | go_size, by first | go_cell | (simp [*]; done), by first | (with_reducible assumption) | (go_simp; done) | (simp [*]; done)⟩, ⟨by first | omega | go_size, by first | go_cell | (simp [*]; done), by first | (with_reducible assumption) | (go_simp; done) | (simp [*]; done)⟩, ⟨by first | omega | go_size, by first | go_cell | (simp [*]; done), by first | (with_reducible assumption) | (go_simp; done) | (simp [*]; done)⟩, ⟨by first | omega | go_size, by first | go_cell | (simp [*]; done), by first | (with_reducible assumption) | (go_simp; done) | (simp [*]; done)⟩, trivial⟩ ?_
    repeat (first | go_big_quiet_step ((intro hq; first | rfl | (go_at_call 73; exact Lib.Held.call hq (fits_nil p n d v e _)) | (go_at_call 74; exact Lib.Held.call hq (r_fits_nil p n d v e _)) | (have hq' := hq; obtain ⟨hbq, heq, ⟨hkq_0, hlq_0, hzq_0⟩, ⟨hkq_1, hlq_1, hzq_1⟩, ⟨hkq_2, hlq_2, hzq_2⟩, ⟨hkq_3, hlq_3, hzq_3⟩, ⟨hkq_4, hlq_4, hzq_4⟩, _⟩ := hq'; go_simp; rfl))) | quiet_step ((intro hq; first | rfl | (go_at_call 73; exact Lib.Held.call hq (fits_nil p n d v e _)) | (go_at_call 74; exact Lib.Held.call hq (r_fits_nil p n d v e _)) | (have hq' := hq; obtain ⟨hbq, heq, ⟨hkq_0, hlq_0, hzq_0⟩, ⟨hkq_1, hlq_1, hzq_1⟩, ⟨hkq_2, hlq_2, hzq_2⟩, ⟨hkq_3, hlq_3, hzq_3⟩, ⟨hkq_4, hlq_4, hzq_4⟩, _⟩ := hq'; go_simp; rfl))))
    refine wpQuiet_nil ?_
    intro W14 hq14
    obtain ⟨hb14, he14, ⟨hk14_0, hl14_0, hz14_0⟩, ⟨hk14_1, hl14_1, hz14_1⟩, ⟨hk14_2, hl14_2, hz14_2⟩, ⟨hk14_3, hl14_3, hz14_3⟩, ⟨hk14_4, hl14_4, hz14_4⟩, _⟩ := hq14
    have hs14 := he14.size
    try simp only [World.size_alloc, World.size_setCell, World.size_drew] at hs14
    go_wp2_with fail
    go_ret
    exact ⟨rfl, by go_grown⟩

theorem walk (p : Bool) (n d v e what i : Int) (pk : Bool) (size base a m : Int) (lv : Value) (A : Option Addr) (k c : Nat) (r : GmFind.Rg) (w : World) (w0 : (Lit.int .i64 n).wf = true ∧ u64in d ∧ u64in v ∧ u64in e) (w1 : (Lit.int .i64 what).wf = true) (w2 : (Lit.int .i64 i).wf = true) (w4 : (Lit.int .i64 size).wf = true)
    (w5 : (Lit.int .u64 base).wf = true) (w6 : (Lit.int .u64 a).wf = true) (w7 : (Lit.int .u64 m).wf = true) (w8 : GmArgs.IsRegs w lv A k c r) :
    Calls Try.prog 8 #[ringV p n d v e, num what, num i, .bool pk, num size, u64 base, u64 a, u64 m, lv] w (Lib.True1 w.heap.size w) := by
  obtain ⟨rfl, h1, h2, h3, h4, h5⟩ := w8
  exact walk' p n d v e what i pk size base a m A k c r w w0.2.1 w0.2.2.1 w0.2.2.2 w2 (bounds_u64 w5) (bounds_u64 w6) (bounds_u64 w7) h1 h4 h5

set_option maxRecDepth 100000 in
theorem lifted (os : Os) (started : os.Started) (H : Type) (enc : TypeId × Value → H) :
    ReturnsInHanded {} Try.checked os 8 .any (Rows.layoutCallsSpec.pre6 enc Try.prog Try.f8 Rows.layoutCallsRow.domain false) (Rows.layoutCallsSpec.post enc Try.prog Try.f8 false true false false) := by
  refine Lib.lifted (C := Try.checked) (tb := 4) H enc Lib.own started (by kernel_rfl) Try.func8
    (ChangeSpec.witness6 (enc := enc) (C := Try.checked) false ⟨#[], #[.agg #[.bool false, .int .i64 0, .int .u64 0, .int .u64 0, .int .u64 0], .int .i64 0, .int .i64 0, .bool false, .int .i64 0, .int .u64 0, .int .u64 0, .int .u64 0, .slice none 0 0], []⟩ 8 (by kernel_rfl) (by kernel_rfl) (by kernel_rfl) (by kernel_rfl))
    Lib.laidOut (Lib.readable_of (by kernel_rfl)) rfl Try.underlying4 rfl ?_ ?_
  · intro ds h
    match ds, h with
    | [_, _, _, _, _, _, _, _, _], _ => exact ⟨rfl, rfl, rfl⟩
  · intro W base args ds p hval hA hfz hlt
    rw [Try.params8] at hval
    have hA' : DataW.TrodAll enc Try.prog W 0 (fun _ => true) true Try.f8.params.toList args.toList ds p := hA
    rw [Try.params8] at hA'
    obtain ⟨v0, vs0, d0, ds0, p0, q0, hargs, rfl, rfl, h0, r0⟩ := trodAll_cons hA'
    obtain ⟨v1, vs1, d1, ds1, p1, q1, rfl, rfl, rfl, h1, r1⟩ := trodAll_cons r0
    obtain ⟨v2, vs2, d2, ds2, p2, q2, rfl, rfl, rfl, h2, r2⟩ := trodAll_cons r1
    obtain ⟨v3, vs3, d3, ds3, p3, q3, rfl, rfl, rfl, h3, r3⟩ := trodAll_cons r2
    obtain ⟨v4, vs4, d4, ds4, p4, q4, rfl, rfl, rfl, h4, r4⟩ := trodAll_cons r3
    obtain ⟨v5, vs5, d5, ds5, p5, q5, rfl, rfl, rfl, h5, r5⟩ := trodAll_cons r4
    obtain ⟨v6, vs6, d6, ds6, p6, q6, rfl, rfl, rfl, h6, r6⟩ := trodAll_cons r5
    obtain ⟨v7, vs7, d7, ds7, p7, q7, rfl, rfl, rfl, h7, r7⟩ := trodAll_cons r6
    obtain ⟨v8, vs8, d8, ds8, p8, q8, rfl, rfl, rfl, h8, r8⟩ := trodAll_cons r7
    obtain ⟨rfl, rfl, rfl⟩ := trodAll_nil r8
    obtain rfl : args = #[v0, v1, v2, v3, v4, v5, v6, v7, v8] := by cases args; simp_all
    obtain ⟨a0_0, a0_1, a0_2, a0_3, a0_4, rfl, w0⟩ := Lay.open_rings (hval 0 89 v0 rfl rfl) h0
    obtain ⟨a1, rfl, rfl, rfl, w1⟩ := open_int Try.underlying3 (hval 1 3 v1 rfl rfl) h1
    obtain ⟨a2, rfl, rfl, rfl, w2⟩ := open_int Try.underlying3 (hval 2 3 v2 rfl rfl) h2
    obtain ⟨a3, rfl, rfl, rfl⟩ := open_bool Try.underlying4 (hval 3 4 v3 rfl rfl) h3
    obtain ⟨a4, rfl, rfl, rfl, w4⟩ := open_int Try.underlying3 (hval 4 3 v4 rfl rfl) h4
    obtain ⟨a5, rfl, rfl, rfl, w5⟩ := open_int Try.underlying26 (hval 5 26 v5 rfl rfl) h5
    obtain ⟨a6, rfl, rfl, rfl, w6⟩ := open_int Try.underlying26 (hval 6 26 v6 rfl rfl) h6
    obtain ⟨a7, rfl, rfl, rfl, w7⟩ := open_int Try.underlying26 (hval 7 26 v7 rfl rfl) h7
    obtain ⟨a8_0, a8_1, a8_2, a8_3, w8⟩ := GmArgs.open_regions (hval 8 22 v8 rfl rfl) h8
    exact walk a0_0 a0_1 a0_2 a0_3 a0_4 a1 a2 a3 a4 a5 a6 a7 v8 a8_0 a8_1 a8_2 a8_3 W w0 w1 w2 w4 w5 w6 w7 w8

theorem over : Rows.layoutCallsRow.holds Try.pinned (OpenSpec.ofChange Rows.layoutCallsSpec) :=
  OpenClaim.holds_of_wide 8 Try.f8 rfl rfl rfl rfl rfl rfl rfl ⟨rfl, rfl, rfl, rfl, rfl⟩ rfl rfl rfl rfl rfl (by kernel_rfl) Try.func8 (by kernel_rfl)
    (of_decide_eq_true (by kernel_rfl)) (by unfold Func.isWrapper; first | (rw [if_pos (by decide +kernel)]; kernel_rfl) | (rw [if_neg (by decide +kernel)]; exact ⟨rfl, rfl⟩))
    (fun os started H enc _ => lifted os started H enc)

/-- The statement. -/
theorem proved : Rows.LayoutCallsSaid :=
  over

end Go.Proofs.Ytkncaafjkoeijaa.LayoutCalls
