
/- Fits of valid rings in a memory. -/
import Derived.Test.YtkncaafjkoeijaaLay2
import Derived.Test.YtkncaafjkoeijaaMGm1
import Derived.Test.YtkncaafjkoeijaaMEng1
namespace Go.Proofs.Ytkncaafjkoeijaa.Lay
open Go.RowKit Ser
set_option linter.unusedVariables false
set_option linter.unusedSimpArgs false

theorem envOk : (Eng.Env.of Try.prog).Ok := Eng.Env.of_ok _ (by kernel_rfl) (by kernel_rfl)
theorem read_nil (x y : Int) (w : World) : Calls Try.prog 22 #[.pointer none, .int .u64 x, .int .i64 y] w fun e w' => e = .returned (.tuple #[.slice none 0 0, .int .i64 1]) ∧ Below w.heap.size w w' :=
  Eng.runsAny (E := Eng.Env.of Try.prog) (f := 1000) (args := [.pointer none, Eng.bot, Eng.bot]) envOk (by kernel_rfl) (by kernel_rfl) (.cons .ptr0 (.cons (.bot _ _) (.cons (.bot _ _) .nil))) w
theorem fits_nil (p : Bool) (n d v e : Int) (w : World) : Calls Try.prog 73 #[.pointer none, ringV p n d v e] w (Gives w.heap.size w (num 1)) := by
  unfold Gives
  have hb0 : Below w.heap.size w w := Below.refl _ _
  have HR := Lib.hid (fun W : World => read_nil 0 0 W)
  go_enter Try.func73, Try.ntmps73
  go_wp2_with fail
  refine (HR.out _).mono ?_
  rintro eE W1 ⟨rfl, hg1⟩
  have hb1 : Below w.heap.size w W1 := (show Below w.heap.size w _ by go_grown).trans (hg1.mono (by first | omega | go_size))
  obtain ⟨hc1, hf1⟩ := bcell hg1
  have hs1 := hg1.size
  try simp only [World.size_alloc, World.size_setCell, World.size_drew] at hs1
  clear hg1 hc1 hf1
  go_wp2_with fail
  go_ret
  exact ⟨rfl, by go_grown⟩

set_option maxRecDepth 100000 in
set_option maxHeartbeats 8000000 in
theorem fits_has (p : Bool) (n d v e x y z : Int) (m : Nat) (o1 o2 o3 : Bool) (q : Int) (w : World) (hself : w.cell? ⟨m, 0, none⟩ = some (.pointer (some ⟨m, 0, none⟩))) (hmlt : m < w.heap.size)
    (hd : u64in d) (hv : u64in v) (he : u64in e) (hc : checkB p n d v e = true) (hp : partsI p n = (x, y, z))
    (h1 : ∀ W, Below w.heap.size w W → Calls Try.prog 27 #[.pointer (some ⟨m, 0, none⟩), .int .u64 d, .int .u64 x] W (Gives W.heap.size W (.bool o1)))
    (h2 : ∀ W, Below w.heap.size w W → Calls Try.prog 27 #[.pointer (some ⟨m, 0, none⟩), .int .u64 v, .int .u64 y] W (Gives W.heap.size W (.bool o2)))
    (h3 : ∀ W, Below w.heap.size w W → Calls Try.prog 27 #[.pointer (some ⟨m, 0, none⟩), .int .u64 e, .int .u64 z] W (Gives W.heap.size W (.bool o3))) (hq : (if (o1 && (o2 && o3)) = true then 0 else 5) = q) :
    Calls Try.prog 73 #[.pointer (some ⟨m, 0, none⟩), ringV p n d v e] w (Gives w.heap.size w (num q)) := by
  unfold Gives
  have hb0 : Below w.heap.size w w := Below.refl _ _
  obtain ⟨t, ht⟩ : ∃ t, toI p = t := ⟨_, rfl⟩
  have hpo := fun W => partsOf_is p n d v e x y z hp W
  rw [ht] at hpo
  have HO := Lib.hid hpo
  have HC := Lib.hid (show (if checkB p n d v e = true then (0 : Int) else 2) = 0 from by rw [hc]; rfl)
  have hD := Lib.hid hd
  have hV := Lib.hid hv
  have hE := Lib.hid he
  have HA := Lib.hid h1
  have HB := Lib.hid h2
  have HE := Lib.hid h3
  have i0 := fun W => (index3 W d x v y t e z).1
  have i1 := fun W => (index3 W d x v y t e z).2.1
  have i2 := fun W => (index3 W d x v y t e z).2.2
  have HR : Hid (∀ W, W.cell? ⟨m, 0, none⟩ = some (.pointer (some ⟨m, 0, none⟩)) → Calls Try.prog 22 #[.pointer (some ⟨m, 0, none⟩), .int .u64 0, .int .i64 0] W (Gives W.heap.size W (.tuple #[.slice none 0 0, .int .i64 0]))) := Lib.hid fun W hW => GmRead.read_zero m 0 W hW
  clear hd hv he hc hp h1 h2 h3 ht hpo
  go_enter Try.func73, Try.ntmps73
  go_wp2_with fail
  refine (HR.out _ (by go_cell)).mono ?_
  rintro eE W1 ⟨rfl, hg1⟩
  have hb1 : Below w.heap.size w W1 := (show Below w.heap.size w _ by go_grown).trans (hg1.mono (by first | omega | go_size))
  obtain ⟨hc1, hf1⟩ := bcell hg1
  have hs1 := hg1.size
  try simp only [World.size_alloc, World.size_setCell, World.size_drew] at hs1
  have hl1_0_0 : W1.cell? ⟨w.heap.size, 0, none⟩ = some (.bool p) := (hc1 _ _ (by first | omega | go_size)).trans (by first | (with_reducible assumption) | go_cell)
  have hz1_0_0 : W1.frozen? ⟨w.heap.size, 0, none⟩ = false := (hf1 _ _ (by first | omega | go_size)).trans (by first | (with_reducible assumption) | (go_simp; done) | (simp [*]; done))
  have hl1_0_1 : W1.cell? ⟨w.heap.size, 1, none⟩ = some (num n) := (hc1 _ _ (by first | omega | go_size)).trans (by first | (with_reducible assumption) | go_cell)
  have hz1_0_1 : W1.frozen? ⟨w.heap.size, 1, none⟩ = false := (hf1 _ _ (by first | omega | go_size)).trans (by first | (with_reducible assumption) | (go_simp; done) | (simp [*]; done))
  have hl1_0_2 : W1.cell? ⟨w.heap.size, 2, none⟩ = some (u64 d) := (hc1 _ _ (by first | omega | go_size)).trans (by first | (with_reducible assumption) | go_cell)
  have hz1_0_2 : W1.frozen? ⟨w.heap.size, 2, none⟩ = false := (hf1 _ _ (by first | omega | go_size)).trans (by first | (with_reducible assumption) | (go_simp; done) | (simp [*]; done))
  have hl1_0_3 : W1.cell? ⟨w.heap.size, 3, none⟩ = some (u64 v) := (hc1 _ _ (by first | omega | go_size)).trans (by first | (with_reducible assumption) | go_cell)
  have hz1_0_3 : W1.frozen? ⟨w.heap.size, 3, none⟩ = false := (hf1 _ _ (by first | omega | go_size)).trans (by first | (with_reducible assumption) | (go_simp; done) | (simp [*]; done))
  have hl1_0_4 : W1.cell? ⟨w.heap.size, 4, none⟩ = some (u64 e) := (hc1 _ _ (by first | omega | go_size)).trans (by first | (with_reducible assumption) | go_cell)
  have hz1_0_4 : W1.frozen? ⟨w.heap.size, 4, none⟩ = false := (hf1 _ _ (by first | omega | go_size)).trans (by first | (with_reducible assumption) | (go_simp; done) | (simp [*]; done))
  have hk1_0 : w.heap.size < W1.heap.size := by omega
  clear hg1 hc1 hf1
  go_wp2_with fail
  refine (check_is p n d v e 0 hD.out hV.out hE.out HC.out _).mono ?_
  rintro eE W2 ⟨rfl, hg2⟩
  have hb2 : Below w.heap.size w W2 := (show Below w.heap.size w _ by go_grown).trans (hg2.mono (by first | omega | go_size))
  obtain ⟨hc2, hf2⟩ := bcell hg2
  have hs2 := hg2.size
  try simp only [World.size_alloc, World.size_setCell, World.size_drew] at hs2
  have hl2_0_0 : W2.cell? ⟨w.heap.size, 0, none⟩ = some (.bool p) := (hc2 _ _ (by first | omega | go_size)).trans (by first | (with_reducible assumption) | go_cell)
  have hz2_0_0 : W2.frozen? ⟨w.heap.size, 0, none⟩ = false := (hf2 _ _ (by first | omega | go_size)).trans (by first | (with_reducible assumption) | (go_simp; done) | (simp [*]; done))
  have hl2_0_1 : W2.cell? ⟨w.heap.size, 1, none⟩ = some (num n) := (hc2 _ _ (by first | omega | go_size)).trans (by first | (with_reducible assumption) | go_cell)
  have hz2_0_1 : W2.frozen? ⟨w.heap.size, 1, none⟩ = false := (hf2 _ _ (by first | omega | go_size)).trans (by first | (with_reducible assumption) | (go_simp; done) | (simp [*]; done))
  have hl2_0_2 : W2.cell? ⟨w.heap.size, 2, none⟩ = some (u64 d) := (hc2 _ _ (by first | omega | go_size)).trans (by first | (with_reducible assumption) | go_cell)
  have hz2_0_2 : W2.frozen? ⟨w.heap.size, 2, none⟩ = false := (hf2 _ _ (by first | omega | go_size)).trans (by first | (with_reducible assumption) | (go_simp; done) | (simp [*]; done))
  have hl2_0_3 : W2.cell? ⟨w.heap.size, 3, none⟩ = some (u64 v) := (hc2 _ _ (by first | omega | go_size)).trans (by first | (with_reducible assumption) | go_cell)
  have hz2_0_3 : W2.frozen? ⟨w.heap.size, 3, none⟩ = false := (hf2 _ _ (by first | omega | go_size)).trans (by first | (with_reducible assumption) | (go_simp; done) | (simp [*]; done))
  have hl2_0_4 : W2.cell? ⟨w.heap.size, 4, none⟩ = some (u64 e) := (hc2 _ _ (by first | omega | go_size)).trans (by first | (with_reducible assumption) | go_cell)
  have hz2_0_4 : W2.frozen? ⟨w.heap.size, 4, none⟩ = false := (hf2 _ _ (by first | omega | go_size)).trans (by first | (with_reducible assumption) | (go_simp; done) | (simp [*]; done))
  have hk2_0 : w.heap.size < W2.heap.size := by omega
  clear hg2 hc2 hf2
  go_wp2_with fail
  refine (HO.out _).mono ?_
  rintro eE W3 ⟨rfl, hg3⟩
  have hb3 : Below w.heap.size w W3 := (show Below w.heap.size w _ by go_grown).trans (hg3.mono (by first | omega | go_size))
  obtain ⟨hc3, hf3⟩ := bcell hg3
  have hs3 := hg3.size
  try simp only [World.size_alloc, World.size_setCell, World.size_drew] at hs3
  have hl3_0_0 : W3.cell? ⟨w.heap.size, 0, none⟩ = some (.bool p) := (hc3 _ _ (by first | omega | go_size)).trans (by first | (with_reducible assumption) | go_cell)
  have hz3_0_0 : W3.frozen? ⟨w.heap.size, 0, none⟩ = false := (hf3 _ _ (by first | omega | go_size)).trans (by first | (with_reducible assumption) | (go_simp; done) | (simp [*]; done))
  have hl3_0_1 : W3.cell? ⟨w.heap.size, 1, none⟩ = some (num n) := (hc3 _ _ (by first | omega | go_size)).trans (by first | (with_reducible assumption) | go_cell)
  have hz3_0_1 : W3.frozen? ⟨w.heap.size, 1, none⟩ = false := (hf3 _ _ (by first | omega | go_size)).trans (by first | (with_reducible assumption) | (go_simp; done) | (simp [*]; done))
  have hl3_0_2 : W3.cell? ⟨w.heap.size, 2, none⟩ = some (u64 d) := (hc3 _ _ (by first | omega | go_size)).trans (by first | (with_reducible assumption) | go_cell)
  have hz3_0_2 : W3.frozen? ⟨w.heap.size, 2, none⟩ = false := (hf3 _ _ (by first | omega | go_size)).trans (by first | (with_reducible assumption) | (go_simp; done) | (simp [*]; done))
  have hl3_0_3 : W3.cell? ⟨w.heap.size, 3, none⟩ = some (u64 v) := (hc3 _ _ (by first | omega | go_size)).trans (by first | (with_reducible assumption) | go_cell)
  have hz3_0_3 : W3.frozen? ⟨w.heap.size, 3, none⟩ = false := (hf3 _ _ (by first | omega | go_size)).trans (by first | (with_reducible assumption) | (go_simp; done) | (simp [*]; done))
  have hl3_0_4 : W3.cell? ⟨w.heap.size, 4, none⟩ = some (u64 e) := (hc3 _ _ (by first | omega | go_size)).trans (by first | (with_reducible assumption) | go_cell)
  have hz3_0_4 : W3.frozen? ⟨w.heap.size, 4, none⟩ = false := (hf3 _ _ (by first | omega | go_size)).trans (by first | (with_reducible assumption) | (go_simp; done) | (simp [*]; done))
  have hk3_0 : w.heap.size < W3.heap.size := by omega
  clear hg3 hc3 hf3
  go_wp2_with fail
  clear HO HR
  refine wp_loop_rounds 4 ?_
  rw [rounds_succ]
  go_wp2_with fail
  cases o1 with
  | false =>
    obtain rfl : q = 5 := hq.symm
    refine (HA.out _ (by go_grown)).mono ?_
    rintro eE W4 ⟨rfl, hg4⟩
    have hb4 : Below w.heap.size w W4 := (show Below w.heap.size w _ by go_grown).trans (hg4.mono (by first | omega | go_size))
    obtain ⟨hc4, hf4⟩ := bcell hg4
    have hs4 := hg4.size
    try simp only [World.size_alloc, World.size_setCell, World.size_drew] at hs4
    clear hg4 hc4 hf4
    go_wp2_with fail
    go_ret
    exact ⟨rfl, by go_grown⟩
  | true =>
  refine (HA.out _ (by go_grown)).mono ?_
  rintro eE W4 ⟨rfl, hg4⟩
  have hb4 : Below w.heap.size w W4 := (show Below w.heap.size w _ by go_grown).trans (hg4.mono (by first | omega | go_size))
  obtain ⟨hc4, hf4⟩ := bcell hg4
  have hs4 := hg4.size
  try simp only [World.size_alloc, World.size_setCell, World.size_drew] at hs4
  clear hg4 hc4 hf4
  go_wp2_with fail
  rw [rounds_succ]
  go_wp2_with fail
  cases o2 with
  | false =>
    obtain rfl : q = 5 := hq.symm
    refine (HB.out _ (by go_grown)).mono ?_
    rintro eE W5 ⟨rfl, hg5⟩
    have hb5 : Below w.heap.size w W5 := (show Below w.heap.size w _ by go_grown).trans (hg5.mono (by first | omega | go_size))
    obtain ⟨hc5, hf5⟩ := bcell hg5
    have hs5 := hg5.size
    try simp only [World.size_alloc, World.size_setCell, World.size_drew] at hs5
    clear hg5 hc5 hf5
    go_wp2_with fail
    go_ret
    exact ⟨rfl, by go_grown⟩
  | true =>
  refine (HB.out _ (by go_grown)).mono ?_
  rintro eE W5 ⟨rfl, hg5⟩
  have hb5 : Below w.heap.size w W5 := (show Below w.heap.size w _ by go_grown).trans (hg5.mono (by first | omega | go_size))
  obtain ⟨hc5, hf5⟩ := bcell hg5
  have hs5 := hg5.size
  try simp only [World.size_alloc, World.size_setCell, World.size_drew] at hs5
  clear hg5 hc5 hf5
  go_wp2_with fail
  rw [rounds_succ]
  go_wp2_with fail
  cases o3 with
  | false =>
    obtain rfl : q = 5 := hq.symm
    refine (HE.out _ (by go_grown)).mono ?_
    rintro eE W6 ⟨rfl, hg6⟩
    have hb6 : Below w.heap.size w W6 := (show Below w.heap.size w _ by go_grown).trans (hg6.mono (by first | omega | go_size))
    obtain ⟨hc6, hf6⟩ := bcell hg6
    have hs6 := hg6.size
    try simp only [World.size_alloc, World.size_setCell, World.size_drew] at hs6
    clear hg6 hc6 hf6
    go_wp2_with fail
    go_ret
    exact ⟨rfl, by go_grown⟩
  | true =>
  obtain rfl : q = 0 := hq.symm
  refine (HE.out _ (by go_grown)).mono ?_
  rintro eE W6 ⟨rfl, hg6⟩
  have hb6 : Below w.heap.size w W6 := (show Below w.heap.size w _ by go_grown).trans (hg6.mono (by first | omega | go_size))
  obtain ⟨hc6, hf6⟩ := bcell hg6
  have hs6 := hg6.size
  try simp only [World.size_alloc, World.size_setCell, World.size_drew] at hs6
  clear hg6 hc6 hf6
  go_wp2_with fail
  rw [rounds_succ]
  go_wp2_with fail
  go_ret
  exact ⟨rfl, by go_grown⟩

theorem fits_is (p : Bool) (n d v e x y z : Int) (k m g1 b3 : Nat) {A2 : Option Addr} {c1 c2 n3 c3 : Nat} (r : GmFind.Rg) (o1 o2 o3 : Bool) (q : Int) (w : World) (hk : k ≤ 1000000) (hr : r.In k) (hf : r.Fits k n3) (hn3 : n3 ≤ c3) (hn3' : n3 ≤ 1000000000)
    (h : GmFind.MemAt w m k g1 A2 (some ⟨b3, 0, none⟩) c1 c2 n3 c3 r) (hd : u64in d) (hv : u64in v) (he : u64in e) (hc : checkB p n d v e = true) (hp : partsI p n = (x, y, z))
    (h1 : (GmWord.place r k d x).isSome = o1) (h2 : (GmWord.place r k v y).isSome = o2) (h3 : (GmWord.place r k e z).isSome = o3) (hq : (if (o1 && (o2 && o3)) = true then 0 else 5) = q) :
    Calls Try.prog 73 #[.pointer (some ⟨m, 0, none⟩), ringV p n d v e] w (Gives w.heap.size w (num q)) := by
  have hin := parts_in (by unfold checkB at hc; simp only [Bool.and_eq_true] at hc; exact hc.1) hp
  have u1 : 0 ≤ x ∧ x ≤ 18446744073709551615 := by omega
  have u2 : 0 ≤ y ∧ y ≤ 18446744073709551615 := by omega
  have u3 : 0 ≤ z ∧ z ≤ 18446744073709551615 := by omega
  exact fits_has p n d v e x y z m o1 o2 o3 q w h.self h.lt hd hv he hc hp
    (fun W hb => h1 ▸ GmWord.has_any k m g1 b3 d x r W hk hr hf hn3 hn3' (h.below hb) hd.1 hd.2 u1.1 u1.2)
    (fun W hb => h2 ▸ GmWord.has_any k m g1 b3 v y r W hk hr hf hn3 hn3' (h.below hb) hv.1 hv.2 u2.1 u2.2)
    (fun W hb => h3 ▸ GmWord.has_any k m g1 b3 e z r W hk hr hf hn3 hn3' (h.below hb) he.1 he.2 u3.1 u3.2) hq

theorem fits_bad (p : Bool) (n d v e : Int) (m : Nat) (w : World) (hself : w.cell? ⟨m, 0, none⟩ = some (.pointer (some ⟨m, 0, none⟩))) (hmlt : m < w.heap.size)
    (hd : u64in d) (hv : u64in v) (he : u64in e) (hc : checkB p n d v e = false) : Calls Try.prog 73 #[.pointer (some ⟨m, 0, none⟩), ringV p n d v e] w (Gives w.heap.size w (num 2)) := by
  unfold Gives
  have hb0 : Below w.heap.size w w := Below.refl _ _
  have HC := Lib.hid (fun W : World => check_is p n d v e 2 hd hv he (by rw [hc]; rfl) W)
  have HR : Hid (∀ W, W.cell? ⟨m, 0, none⟩ = some (.pointer (some ⟨m, 0, none⟩)) → Calls Try.prog 22 #[.pointer (some ⟨m, 0, none⟩), .int .u64 0, .int .i64 0] W (Gives W.heap.size W (.tuple #[.slice none 0 0, .int .i64 0]))) := Lib.hid fun W hW => GmRead.read_zero m 0 W hW
  clear hd hv he hc
  go_enter Try.func73, Try.ntmps73
  go_wp2_with fail
  refine (HR.out _ (by go_cell)).mono ?_
  rintro eE W1 ⟨rfl, hg1⟩
  have hb1 : Below w.heap.size w W1 := (show Below w.heap.size w _ by go_grown).trans (hg1.mono (by first | omega | go_size))
  obtain ⟨hc1, hf1⟩ := bcell hg1
  have hs1 := hg1.size
  try simp only [World.size_alloc, World.size_setCell, World.size_drew] at hs1
  have hl1_0_0 : W1.cell? ⟨w.heap.size, 0, none⟩ = some (.bool p) := (hc1 _ _ (by first | omega | go_size)).trans (by first | (with_reducible assumption) | go_cell)
  have hz1_0_0 : W1.frozen? ⟨w.heap.size, 0, none⟩ = false := (hf1 _ _ (by first | omega | go_size)).trans (by first | (with_reducible assumption) | (go_simp; done) | (simp [*]; done))
  have hl1_0_1 : W1.cell? ⟨w.heap.size, 1, none⟩ = some (num n) := (hc1 _ _ (by first | omega | go_size)).trans (by first | (with_reducible assumption) | go_cell)
  have hz1_0_1 : W1.frozen? ⟨w.heap.size, 1, none⟩ = false := (hf1 _ _ (by first | omega | go_size)).trans (by first | (with_reducible assumption) | (go_simp; done) | (simp [*]; done))
  have hl1_0_2 : W1.cell? ⟨w.heap.size, 2, none⟩ = some (u64 d) := (hc1 _ _ (by first | omega | go_size)).trans (by first | (with_reducible assumption) | go_cell)
  have hz1_0_2 : W1.frozen? ⟨w.heap.size, 2, none⟩ = false := (hf1 _ _ (by first | omega | go_size)).trans (by first | (with_reducible assumption) | (go_simp; done) | (simp [*]; done))
  have hl1_0_3 : W1.cell? ⟨w.heap.size, 3, none⟩ = some (u64 v) := (hc1 _ _ (by first | omega | go_size)).trans (by first | (with_reducible assumption) | go_cell)
  have hz1_0_3 : W1.frozen? ⟨w.heap.size, 3, none⟩ = false := (hf1 _ _ (by first | omega | go_size)).trans (by first | (with_reducible assumption) | (go_simp; done) | (simp [*]; done))
  have hl1_0_4 : W1.cell? ⟨w.heap.size, 4, none⟩ = some (u64 e) := (hc1 _ _ (by first | omega | go_size)).trans (by first | (with_reducible assumption) | go_cell)
  have hz1_0_4 : W1.frozen? ⟨w.heap.size, 4, none⟩ = false := (hf1 _ _ (by first | omega | go_size)).trans (by first | (with_reducible assumption) | (go_simp; done) | (simp [*]; done))
  have hk1_0 : w.heap.size < W1.heap.size := by omega
  clear hg1 hc1 hf1
  go_wp2_with fail
  refine (HC.out _).mono ?_
  rintro eE W2 ⟨rfl, hg2⟩
  have hb2 : Below w.heap.size w W2 := (show Below w.heap.size w _ by go_grown).trans (hg2.mono (by first | omega | go_size))
  obtain ⟨hc2, hf2⟩ := bcell hg2
  have hs2 := hg2.size
  try simp only [World.size_alloc, World.size_setCell, World.size_drew] at hs2
  have hl2_0_0 : W2.cell? ⟨w.heap.size, 0, none⟩ = some (.bool p) := (hc2 _ _ (by first | omega | go_size)).trans (by first | (with_reducible assumption) | go_cell)
  have hz2_0_0 : W2.frozen? ⟨w.heap.size, 0, none⟩ = false := (hf2 _ _ (by first | omega | go_size)).trans (by first | (with_reducible assumption) | (go_simp; done) | (simp [*]; done))
  have hl2_0_1 : W2.cell? ⟨w.heap.size, 1, none⟩ = some (num n) := (hc2 _ _ (by first | omega | go_size)).trans (by first | (with_reducible assumption) | go_cell)
  have hz2_0_1 : W2.frozen? ⟨w.heap.size, 1, none⟩ = false := (hf2 _ _ (by first | omega | go_size)).trans (by first | (with_reducible assumption) | (go_simp; done) | (simp [*]; done))
  have hl2_0_2 : W2.cell? ⟨w.heap.size, 2, none⟩ = some (u64 d) := (hc2 _ _ (by first | omega | go_size)).trans (by first | (with_reducible assumption) | go_cell)
  have hz2_0_2 : W2.frozen? ⟨w.heap.size, 2, none⟩ = false := (hf2 _ _ (by first | omega | go_size)).trans (by first | (with_reducible assumption) | (go_simp; done) | (simp [*]; done))
  have hl2_0_3 : W2.cell? ⟨w.heap.size, 3, none⟩ = some (u64 v) := (hc2 _ _ (by first | omega | go_size)).trans (by first | (with_reducible assumption) | go_cell)
  have hz2_0_3 : W2.frozen? ⟨w.heap.size, 3, none⟩ = false := (hf2 _ _ (by first | omega | go_size)).trans (by first | (with_reducible assumption) | (go_simp; done) | (simp [*]; done))
  have hl2_0_4 : W2.cell? ⟨w.heap.size, 4, none⟩ = some (u64 e) := (hc2 _ _ (by first | omega | go_size)).trans (by first | (with_reducible assumption) | go_cell)
  have hz2_0_4 : W2.frozen? ⟨w.heap.size, 4, none⟩ = false := (hf2 _ _ (by first | omega | go_size)).trans (by first | (with_reducible assumption) | (go_simp; done) | (simp [*]; done))
  have hk2_0 : w.heap.size < W2.heap.size := by omega
  clear hg2 hc2 hf2
  go_wp2_with fail
  go_ret
  exact ⟨rfl, by go_grown⟩

end Go.Proofs.Ytkncaafjkoeijaa.Lay
