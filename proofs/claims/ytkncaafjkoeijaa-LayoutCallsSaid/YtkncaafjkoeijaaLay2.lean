
/- Check of rings: valid or not. -/
import Derived.Test.YtkncaafjkoeijaaLay1
import Derived.Test.YtkncaafjkoeijaaIndex
namespace Go.Proofs.Ytkncaafjkoeijaa.Lay
open Go.RowKit Ser
set_option linter.unusedVariables false
set_option linter.unusedSimpArgs false

def apartB (d x v y t e z : Int) : Bool := partB d x 16 && partB v y t && partB e z 4 && !shareB d x v y && !shareB d x e z && !shareB v y e z
def checkB (p : Bool) (n d v e : Int) : Bool := sizeB p n && apartB d (partsI p n).1 v (partsI p n).2.1 (toI p) e (partsI p n).2.2

theorem parts_in {p : Bool} {n x y z : Int} (hs : sizeB p n = true) (h : partsI p n = (x, y, z)) : 16 ≤ x ∧ x ≤ 1000000 ∧ 4 ≤ y ∧ y ≤ 1000000 ∧ 4 ≤ z ∧ z ≤ 1000000 := by
  have hn := sizeB_in hs
  unfold partsI at h
  rw [hs, if_pos rfl] at h
  split at h <;> cases h <;> omega

theorem partB_no {a n t : Int} (h : partB a n t = false) : (a % t ≠ 0) ∨ (a % t = 0 ∧ 18446744073709551615 < a + (n - 1)) := by
  unfold partB at h
  by_cases h0 : a % t = 0
  · right; simp [h0] at h; omega
  · exact .inl h0
theorem partB_yes {a n t : Int} (h : partB a n t = true) : a % t = 0 ∧ a + (n - 1) ≤ 18446744073709551615 := by
  unfold partB at h; simpa using h

theorem share_is (a an t b bn s : Int) (r : Bool) (ha : u64in a) (hb : u64in b) (h : shareB a an b bn = r) (w : World) : Calls Try.prog 114 #[partV a an t, partV b bn s] w (Gives w.heap.size w (.bool r)) := h ▸ share_any a an t b bn s ha hb w

theorem index3 (W : World) (d x v y t e z : Int) :
    (Instr.index 144 (partsV d x v y t e z) (.int .i64 0)).run Try.prog W = .ok (partV d x 16) W ∧
    (Instr.index 144 (partsV d x v y t e z) (.int .i64 1)).run Try.prog W = .ok (partV v y t) W ∧
    (Instr.index 144 (partsV d x v y t e z) (.int .i64 2)).run Try.prog W = .ok (partV e z 4) W :=
  ⟨Lib.run_index_part (k := 3) W _ 0 Try.underlying144 Try.underlying143 (by kernel_rfl) (by decide),
    Lib.run_index_part (k := 3) W _ 1 Try.underlying144 Try.underlying143 (by kernel_rfl) (by decide),
    Lib.run_index_part (k := 3) W _ 2 Try.underlying144 Try.underlying143 (by kernel_rfl) (by decide)⟩
theorem index6 (W : World) (d x v y t e z : Int) :
    (Instr.index 147 (.agg #[u64 d, u64 x, u64 16, u64 v, u64 y, u64 t, u64 d, u64 x, u64 16, u64 e, u64 z, u64 4, u64 v, u64 y, u64 t, u64 e, u64 z, u64 4]) (.int .i64 0)).run Try.prog W = .ok (.agg #[u64 d, u64 x, u64 16, u64 v, u64 y, u64 t]) W ∧
    (Instr.index 147 (.agg #[u64 d, u64 x, u64 16, u64 v, u64 y, u64 t, u64 d, u64 x, u64 16, u64 e, u64 z, u64 4, u64 v, u64 y, u64 t, u64 e, u64 z, u64 4]) (.int .i64 1)).run Try.prog W = .ok (.agg #[u64 d, u64 x, u64 16, u64 e, u64 z, u64 4]) W ∧
    (Instr.index 147 (.agg #[u64 d, u64 x, u64 16, u64 v, u64 y, u64 t, u64 d, u64 x, u64 16, u64 e, u64 z, u64 4, u64 v, u64 y, u64 t, u64 e, u64 z, u64 4]) (.int .i64 2)).run Try.prog W = .ok (.agg #[u64 v, u64 y, u64 t, u64 e, u64 z, u64 4]) W :=
  ⟨Lib.run_index_arr (k := 6) W _ 0 Try.underlying147 Try.underlying146 (by kernel_rfl) (by decide),
    Lib.run_index_arr (k := 6) W _ 1 Try.underlying147 Try.underlying146 (by kernel_rfl) (by decide),
    Lib.run_index_arr (k := 6) W _ 2 Try.underlying147 Try.underlying146 (by kernel_rfl) (by decide)⟩

set_option maxRecDepth 100000 in
set_option maxHeartbeats 4000000 in
theorem check_parts (p : Bool) (n d v e x y z : Int) (hd : u64in d) (hv : u64in v) (he : u64in e) (hs : sizeB p n = true) (h : partsI p n = (x, y, z)) (w : World) :
    Calls Try.prog 65 #[ringV p n d v e] w (Gives w.heap.size w (num (if apartB d x v y (toI p) e z = true then 0 else 2))) := by
  unfold Gives
  have hb0 : Below w.heap.size w w := Below.refl _ _
  have hin := parts_in hs h
  have HS := Lib.hid hs
  have HP := Lib.hid h
  clear hs h
  obtain ⟨t, ht⟩ : ∃ t, toI p = t := ⟨_, rfl⟩
  have ht1 : t = 4 ∨ t = 2 := by rw [← ht]; unfold toI; split <;> simp
  have hpo := fun W => partsOf_is p n d v e x y z HP.out W
  rw [ht] at hpo ⊢
  have HO := Lib.hid hpo
  clear ht hpo HP
  obtain ⟨q, hq⟩ : ∃ q : Int, (if apartB d x v y t e z = true then 0 else 2) = q := ⟨_, rfl⟩
  rw [hq]
  have HQ := Lib.hid hq
  clear hq
  have hD := Lib.hid hd
  have hV := Lib.hid hv
  have hE := Lib.hid he
  unfold u64in at hd hv he
  have m1 : d.tmod 16 = d % 16 := Int.tmod_eq_emod_of_nonneg hd.1
  have m2 : v.tmod t = v % t := Int.tmod_eq_emod_of_nonneg hv.1
  have m3 : e.tmod 4 = e % 4 := Int.tmod_eq_emod_of_nonneg he.1
  have i0 := fun W => (index3 W d x v y t e z).1
  have i1 := fun W => (index3 W d x v y t e z).2.1
  have i2 := fun W => (index3 W d x v y t e z).2.2
  have j0 := fun W => (index6 W d x v y t e z).1
  have j1 := fun W => (index6 W d x v y t e z).2.1
  have j2 := fun W => (index6 W d x v y t e z).2.2
  have tn : (t == 0) = false := by rcases ht1 with rfl | rfl <;> rfl
  go_enter Try.func65, Try.ntmps65
  go_wp2_with fail
  refine (size_is p true n d v e HS.out _).mono ?_
  rintro eE W1 ⟨rfl, hg1⟩
  have hb1 : Below w.heap.size w W1 := (show Below w.heap.size w _ by go_grown).trans (hg1.mono (by first | omega | go_size))
  obtain ⟨hc1, hf1⟩ := bcell hg1
  have hs1 := hg1.size
  try simp only [World.size_alloc, World.size_setCell, World.size_drew] at hs1
  have hl1_0_0 : W1.cell? ⟨w.heap.size, 0, none⟩ = some (.bool p) := (hc1 _ _ (by first | omega | go_size)).trans (by first | (with_reducible assumption) | go_cell)
  have hz1_0_0 : W1.frozen? ⟨w.heap.size, 0, none⟩ = false := (hf1 _ _ (by first | omega | go_size)).trans (by first | (with_reducible assumption) | (go_simp; done) | (simp [*]; done))
  have hl1_0_1 : W1.cell? ⟨w.heap.size, 1, none⟩ = some (num n) := (hc1 _ _ (by first | omega | go_size)).trans (by first | (with_reducible assumption) | go_cell)
  have hz1_0_1 : W1.frozen? ⟨w.heap.size, 1, none⟩ = false := (hf1 _ _ (by first | omega | go_size)).trans (by first | (with_reducible assumption) | (go_simp; done) | (simp [*]; done))
  have hl1_0_2 : W1.cell? ⟨w.heap.size, 2, none⟩ = some (u64 d) := (hc1 _ _ (by first | omega | go_size)).trans (by first | (with_reducible assumption) | go_cell)
  have hz1_0_2 : W1.frozen? ⟨w.heap.size, 2, none⟩ = false := (hf1 _ _ (by first | omega | go_size)).trans (by first | (with_reducible assumption) | (go_simp; done) | (simp [*]; done))
  have hl1_0_3 : W1.cell? ⟨w.heap.size, 3, none⟩ = some (u64 v) := (hc1 _ _ (by first | omega | go_size)).trans (by first | (with_reducible assumption) | go_cell)
  have hz1_0_3 : W1.frozen? ⟨w.heap.size, 3, none⟩ = false := (hf1 _ _ (by first | omega | go_size)).trans (by first | (with_reducible assumption) | (go_simp; done) | (simp [*]; done))
  have hl1_0_4 : W1.cell? ⟨w.heap.size, 4, none⟩ = some (u64 e) := (hc1 _ _ (by first | omega | go_size)).trans (by first | (with_reducible assumption) | go_cell)
  have hz1_0_4 : W1.frozen? ⟨w.heap.size, 4, none⟩ = false := (hf1 _ _ (by first | omega | go_size)).trans (by first | (with_reducible assumption) | (go_simp; done) | (simp [*]; done))
  have hk1_0 : w.heap.size < W1.heap.size := by omega
  clear hg1 hc1 hf1
  go_wp2_with fail
  refine (HO.out _).mono ?_
  rintro eE W2 ⟨rfl, hg2⟩
  have hb2 : Below w.heap.size w W2 := (show Below w.heap.size w _ by go_grown).trans (hg2.mono (by first | omega | go_size))
  obtain ⟨hc2, hf2⟩ := bcell hg2
  have hs2 := hg2.size
  try simp only [World.size_alloc, World.size_setCell, World.size_drew] at hs2
  have hl2_0_0 : W2.cell? ⟨w.heap.size, 0, none⟩ = some (.bool p) := (hc2 _ _ (by first | omega | go_size)).trans (by first | (with_reducible assumption) | go_cell)
  have hz2_0_0 : W2.frozen? ⟨w.heap.size, 0, none⟩ = false := (hf2 _ _ (by first | omega | go_size)).trans (by first | (with_reducible assumption) | (go_simp; done) | (simp [*]; done))
  have hl2_0_1 : W2.cell? ⟨w.heap.size, 1, none⟩ = some (num n) := (hc2 _ _ (by first | omega | go_size)).trans (by first | (with_reducible assumption) | go_cell)
  have hz2_0_1 : W2.frozen? ⟨w.heap.size, 1, none⟩ = false := (hf2 _ _ (by first | omega | go_size)).trans (by first | (with_reducible assumption) | (go_simp; done) | (simp [*]; done))
  have hl2_0_2 : W2.cell? ⟨w.heap.size, 2, none⟩ = some (u64 d) := (hc2 _ _ (by first | omega | go_size)).trans (by first | (with_reducible assumption) | go_cell)
  have hz2_0_2 : W2.frozen? ⟨w.heap.size, 2, none⟩ = false := (hf2 _ _ (by first | omega | go_size)).trans (by first | (with_reducible assumption) | (go_simp; done) | (simp [*]; done))
  have hl2_0_3 : W2.cell? ⟨w.heap.size, 3, none⟩ = some (u64 v) := (hc2 _ _ (by first | omega | go_size)).trans (by first | (with_reducible assumption) | go_cell)
  have hz2_0_3 : W2.frozen? ⟨w.heap.size, 3, none⟩ = false := (hf2 _ _ (by first | omega | go_size)).trans (by first | (with_reducible assumption) | (go_simp; done) | (simp [*]; done))
  have hl2_0_4 : W2.cell? ⟨w.heap.size, 4, none⟩ = some (u64 e) := (hc2 _ _ (by first | omega | go_size)).trans (by first | (with_reducible assumption) | go_cell)
  have hz2_0_4 : W2.frozen? ⟨w.heap.size, 4, none⟩ = false := (hf2 _ _ (by first | omega | go_size)).trans (by first | (with_reducible assumption) | (go_simp; done) | (simp [*]; done))
  have hk2_0 : w.heap.size < W2.heap.size := by omega
  clear hg2 hc2 hf2
  go_wp2_with fail
  clear HO
  refine wp_loop_rounds 4 ?_
  rw [rounds_succ]
  cases hp1 : partB d x 16 with
  | false =>
    obtain rfl : q = 2 := by rw [← HQ.out]; unfold apartB; rw [hp1]; rfl
    rcases partB_no hp1 with h1 | ⟨h1, h2⟩
    · have c1 : (d % 16 != 0) = true := by simpa using h1
      clear h1 hp1
      go_wp2
      go_ret
      exact ⟨rfl, by go_grown⟩
    · clear hp1
      go_wp2
      go_ret
      exact ⟨rfl, by go_grown⟩
  | true =>
  obtain ⟨h11, h12⟩ := partB_yes hp1
  have HP1 := Lib.hid hp1
  clear hp1
  go_wp2
  clear h11 h12
  rw [rounds_succ]
  cases hp2 : partB v y t with
  | false =>
    obtain rfl : q = 2 := by rw [← HQ.out]; unfold apartB; rw [HP1.out, hp2]; rfl
    rcases partB_no hp2 with h1 | ⟨h1, h2⟩
    · have c1 : (v % t != 0) = true := by simpa using h1
      clear h1 hp2
      go_wp2
      go_ret
      exact ⟨rfl, by go_grown⟩
    · clear hp2
      go_wp2
      go_ret
      exact ⟨rfl, by go_grown⟩
  | true =>
  obtain ⟨h21, h22⟩ := partB_yes hp2
  have HP2 := Lib.hid hp2
  clear hp2
  go_wp2
  clear h21 h22
  rw [rounds_succ]
  cases hp3 : partB e z 4 with
  | false =>
    obtain rfl : q = 2 := by rw [← HQ.out]; unfold apartB; rw [HP1.out, HP2.out, hp3]; rfl
    rcases partB_no hp3 with h1 | ⟨h1, h2⟩
    · have c1 : (e % 4 != 0) = true := by simpa using h1
      clear h1 hp3
      go_wp2
      go_ret
      exact ⟨rfl, by go_grown⟩
    · clear hp3
      go_wp2
      go_ret
      exact ⟨rfl, by go_grown⟩
  | true =>
  obtain ⟨h31, h32⟩ := partB_yes hp3
  have HP3 := Lib.hid hp3
  clear hp3
  go_wp2
  clear h31 h32
  rw [rounds_succ]
  go_wp2
  refine wp_loop_rounds 4 ?_
  rw [rounds_succ]
  go_wp2_with fail
  cases hs1 : shareB d x v y with
  | true =>
    obtain rfl : q = 2 := by rw [← HQ.out]; unfold apartB; rw [HP1.out, HP2.out, HP3.out, hs1]; rfl
    have HSX := Lib.hid hs1
    clear hs1
    refine (share_is d x 16 v y t true hD.out hV.out HSX.out _).mono ?_
    rintro eE W3 ⟨rfl, hg3⟩
    have hb3 : Below w.heap.size w W3 := (show Below w.heap.size w _ by go_grown).trans (hg3.mono (by first | omega | go_size))
    obtain ⟨hc3, hf3⟩ := bcell hg3
    have hs3 := hg3.size
    try simp only [World.size_alloc, World.size_setCell, World.size_drew] at hs3
    clear hg3 hc3 hf3
    go_wp2_with fail
    go_ret
    exact ⟨rfl, by go_grown⟩
  | false =>
  have HS1 := Lib.hid hs1
  clear hs1
  refine (share_is d x 16 v y t false hD.out hV.out HS1.out _).mono ?_
  rintro eE W3 ⟨rfl, hg3⟩
  have hb3 : Below w.heap.size w W3 := (show Below w.heap.size w _ by go_grown).trans (hg3.mono (by first | omega | go_size))
  obtain ⟨hc3, hf3⟩ := bcell hg3
  have hs3 := hg3.size
  try simp only [World.size_alloc, World.size_setCell, World.size_drew] at hs3
  clear hg3 hc3 hf3
  go_wp2_with fail
  rw [rounds_succ]
  go_wp2_with fail
  cases hs2 : shareB d x e z with
  | true =>
    obtain rfl : q = 2 := by rw [← HQ.out]; unfold apartB; rw [HP1.out, HP2.out, HP3.out, HS1.out, hs2]; rfl
    have HSX := Lib.hid hs2
    clear hs2
    refine (share_is d x 16 e z 4 true hD.out hE.out HSX.out _).mono ?_
    rintro eE W4 ⟨rfl, hg4⟩
    have hb4 : Below w.heap.size w W4 := (show Below w.heap.size w _ by go_grown).trans (hg4.mono (by first | omega | go_size))
    obtain ⟨hc4, hf4⟩ := bcell hg4
    have hs4 := hg4.size
    try simp only [World.size_alloc, World.size_setCell, World.size_drew] at hs4
    clear hg4 hc4 hf4
    go_wp2_with fail
    go_ret
    exact ⟨rfl, by go_grown⟩
  | false =>
  have HS2 := Lib.hid hs2
  clear hs2
  refine (share_is d x 16 e z 4 false hD.out hE.out HS2.out _).mono ?_
  rintro eE W4 ⟨rfl, hg4⟩
  have hb4 : Below w.heap.size w W4 := (show Below w.heap.size w _ by go_grown).trans (hg4.mono (by first | omega | go_size))
  obtain ⟨hc4, hf4⟩ := bcell hg4
  have hs4 := hg4.size
  try simp only [World.size_alloc, World.size_setCell, World.size_drew] at hs4
  clear hg4 hc4 hf4
  go_wp2_with fail
  rw [rounds_succ]
  go_wp2_with fail
  cases hs3 : shareB v y e z with
  | true =>
    obtain rfl : q = 2 := by rw [← HQ.out]; unfold apartB; rw [HP1.out, HP2.out, HP3.out, HS1.out, HS2.out, hs3]; rfl
    have HSX := Lib.hid hs3
    clear hs3
    refine (share_is v y t e z 4 true hV.out hE.out HSX.out _).mono ?_
    rintro eE W5 ⟨rfl, hg5⟩
    have hb5 : Below w.heap.size w W5 := (show Below w.heap.size w _ by go_grown).trans (hg5.mono (by first | omega | go_size))
    obtain ⟨hc5, hf5⟩ := bcell hg5
    have hs5 := hg5.size
    try simp only [World.size_alloc, World.size_setCell, World.size_drew] at hs5
    clear hg5 hc5 hf5
    go_wp2_with fail
    go_ret
    exact ⟨rfl, by go_grown⟩
  | false =>
  have HS3 := Lib.hid hs3
  clear hs3
  refine (share_is v y t e z 4 false hV.out hE.out HS3.out _).mono ?_
  rintro eE W5 ⟨rfl, hg5⟩
  have hb5 : Below w.heap.size w W5 := (show Below w.heap.size w _ by go_grown).trans (hg5.mono (by first | omega | go_size))
  obtain ⟨hc5, hf5⟩ := bcell hg5
  have hs5 := hg5.size
  try simp only [World.size_alloc, World.size_setCell, World.size_drew] at hs5
  clear hg5 hc5 hf5
  go_wp2_with fail
  rw [rounds_succ]
  go_wp2_with fail
  obtain rfl : q = 0 := by rw [← HQ.out]; unfold apartB; rw [HP1.out, HP2.out, HP3.out, HS1.out, HS2.out, HS3.out]; rfl
  go_ret
  exact ⟨rfl, by go_grown⟩

theorem check_is (p : Bool) (n d v e c : Int) (hd : u64in d) (hv : u64in v) (he : u64in e) (h : (if checkB p n d v e = true then 0 else 2) = c) (w : World) :
    Calls Try.prog 65 #[ringV p n d v e] w (Gives w.heap.size w (num c)) := by
  cases hs : sizeB p n with
  | false =>
    have : checkB p n d v e = false := by unfold checkB; rw [hs]; rfl
    rw [this] at h
    obtain rfl : c = 2 := h.symm
    unfold Gives
    have hb0 : Below w.heap.size w w := Below.refl _ _
    have HS := Lib.hid hs
    clear hs this
    go_enter Try.func65, Try.ntmps65
    go_wp2_with fail
    refine (size_is p false n d v e HS.out _).mono ?_
    rintro eE W1 ⟨rfl, hg1⟩
    have hb1 : Below w.heap.size w W1 := (show Below w.heap.size w _ by go_grown).trans (hg1.mono (by first | omega | go_size))
    obtain ⟨hc1, hf1⟩ := bcell hg1
    have hs1 := hg1.size
    try simp only [World.size_alloc, World.size_setCell, World.size_drew] at hs1
    clear hg1 hc1 hf1
    go_wp2_with fail
    go_ret
    exact ⟨rfl, by go_grown⟩
  | true =>
    have : checkB p n d v e = apartB d (partsI p n).1 v (partsI p n).2.1 (toI p) e (partsI p n).2.2 := by unfold checkB; rw [hs]; rfl
    rw [this] at h
    rw [← h]
    exact check_parts p n d v e _ _ _ hd hv he hs rfl w

end Go.Proofs.Ytkncaafjkoeijaa.Lay
