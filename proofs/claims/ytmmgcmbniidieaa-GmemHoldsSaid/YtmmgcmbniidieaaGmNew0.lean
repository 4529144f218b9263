
/- Memory in regions: New of a list that is not valid, and of none. -/
import Derived.Test.YtmmgcmbniidieaaGmBad
import Derived.Test.YtmmgcmbniidieaaGmNew
import Derived.LoopN
namespace Go.Proofs.Ytmmgcmbniidieaa.GmNew0
open Go.RowKit Rw GmFind GmWord GmCheck GmCopyR GmNew
set_option linter.unusedVariables false
set_option linter.unusedSimpArgs false

set_option maxRecDepth 100000 in
theorem new_no (A : Option Addr) (k c : Nat) (w : World) (h : ∀ W, w = W → Calls Try.prog 12 #[.slice A k c] W (GmWord.Gives W.heap.size W (.int .i64 2))) : Calls Try.prog 9 #[.slice A k c] w (GmWord.Gives w.heap.size w (.tuple #[.pointer none, .int .i64 2])) := by
  unfold GmWord.Gives
  have H := Lib.hid h
  clear h
  go_enter Try.func9, Try.ntmps9
  go_wp2_with fail
  refine (H.out _ rfl).mono ?_
  rintro e W1 ⟨rfl, hg1⟩
  go_wp2_with fail
  go_returns
  exact ⟨rfl, by go_grown⟩

theorem run_copy_zero {P : Program} (w : World) (dT sT ty elem : TypeId) (z : Nat) (d a : Option Addr) (dLen dCap sLen sCap : Nat) (hu : P.underlying dT = some (.slice elem)) (hs : (P.info? elem).map (·.size) = some z) (hn : Nat.min sLen dLen = 0) :
    (Builtin.copy_ #[dT, sT] ty #[.slice d dLen dCap, .slice a sLen sCap]).run P w = .ok (goInt 0) w := by
  cases hq : P.info? elem with
  | none => simp [hq] at hs
  | some i =>
    have hl : ∀ (x : Addr), (loadCells x 0).run P w = .ok #[] w := fun x => by simpa using run_loadCells_list (P := P) w x [] (by simp)
    cases d <;> cases a <;> simp [Builtin.copy_, run_underlying hu, Builtin.lenOf, Builtin.firstCells, sizeOf, typeInfo, hq, hn, storeCells, hl]

set_option maxRecDepth 100000 in
set_option maxHeartbeats 2000000 in
theorem copied_rg0 (A : Option Addr) (c : Nat) (w : World) :
    Calls Try.prog 49 #[.slice A 0 c] w fun e w' => ∃ b, e = .returned (.slice (some ⟨b, 0, none⟩) 0 0) ∧ w.heap.size ≤ b ∧ b < w'.heap.size ∧ (∀ o, w'.frozen? ⟨b, o, none⟩ = false) ∧ Below w.heap.size w w' := by
  obtain ⟨i0, hi, hz0, hz1, hz2⟩ := rginfo
  have H0 := Lib.hid hi
  have H1 := Lib.hid hz0
  have H2 := Lib.hid hz1
  have H3 := Lib.hid hz2
  clear hi hz0 hz1 hz2
  go_enter Try.func49, Try.ntmps49
  go_wp2_with (at_make; refine wpList_make_full _ rfl _ _ 22 rfl w.heap.size 55 i0 (.agg #[.int .u64 0, .int .u64 0]) 2 Try.underlying22 H0.out H1.out H2.out _ _ _ _ 0 rfl rfl rfl rfl (by rw [H3.out]; omega) (by unfold maxLen; omega) (Nat.le_refl _) ?_)
  intro w1 ho1 hg1
  obtain ⟨cur, hh⟩ : ∃ cur : Array Value, w1.heap[w.heap.size]? = some (.cells cur 55 (0, 0)) := by
    rcases ho1.2 with ⟨hx, _⟩ | ⟨g', cap, cur, he, _, hh, _⟩
    · cases hx
    · cases he
      exact ⟨cur, hh⟩
  have HH := Lib.hid hh
  have hb1 : Below w.heap.size w w1 := (Below.refl _ w).grown hg1 (Nat.le_refl _) (fun k e => by cases e)
  have hcp := fun ty => run_copy_zero (P := Try.prog) w1 22 22 ty 55 2 (some ⟨w.heap.size, 0, none⟩) A 0 0 0 c Try.underlying22 (by kernel_rfl) rfl
  clear ho1 hg1 hh
  go_wp2_with (simp only [hcp])
  go_ret
  refine ⟨w.heap.size, rfl, Nat.le_refl _, ?_, fun o => ?_, hb1⟩
  · obtain ⟨h1, _⟩ := Array.getElem?_eq_some_iff.1 HH.out
    exact h1
  · simp [World.frozen?, HH.out]

set_option maxRecDepth 100000 in
theorem grow_zero (w : World) : Calls Try.prog 50 #[.slice none 0 0, .int .i64 0] w fun e w' => e = .returned (.slice none 0 0) ∧ w = w' := by
  go_enter Try.func50, Try.ntmps50
  go_wp2
  go_ret
  exact ⟨rfl, rfl⟩

set_option maxRecDepth 100000 in
set_option maxHeartbeats 4000000 in
theorem new_none (A : Option Addr) (c : Nat) (r : Rg) (w : World) :
    Calls Try.prog 9 #[.slice A 0 c] w fun e w' => ∃ (m g1 : Nat), e = .returned (.tuple #[.pointer (some ⟨m, 0, none⟩), .int .i64 0]) ∧ MemAt w' m 0 g1 none none 0 0 0 0 r ∧ w.heap.size ≤ m ∧ w.heap.size ≤ g1 ∧ g1 < m ∧ Below w.heap.size w w' := by
  have hb0 : Below w.heap.size w w := Below.refl _ _
  have HC := Lib.hid (check_ok A 0 c r w (by decide) (fun i hi => by omega) (fun i hi => by omega) (fun h => by omega))
  go_enter Try.func9, Try.ntmps9
  go_wp2_with fail
  refine (HC.out).mono ?_
  rintro eE W1 ⟨rfl, hg1⟩
  have hs1 := hg1.size
  have hb1 : Below w.heap.size w W1 := hg1
  clear HC
  go_wp2_with fail
  (with_reducible refine (copied_rg0 A c _).mono ?_)
  rintro eE W2 ⟨g1, rfl, hg1', hlt1, hfz, hg2⟩
  have hb2 : Below w.heap.size w W2 := hb1.trans (hg2.mono hs1)
  have hs2 := hg2.size
  obtain ⟨m, hm⟩ : ∃ m, W2.heap.size = m := ⟨_, rfl⟩
  have HF := Lib.hid hfz
  clear hfz hg2
  have hcl : ∀ ty W, (Builtin.clear_ #[37] ty #[.slice none 0 0]).run Try.prog W = .ok (.tuple #[]) W := fun ty W => by
    simp [Builtin.clear_, run_underlying Try.underlying37]
  go_wp2_with fail
  refine wp_loop_rounds 1 ?_
  rw [rounds_succ]
  go_wp2_with fail
  refine (grow_zero _).mono ?_
  rintro eE W3 ⟨rfl, rfl⟩
  go_wp2_with (simp only [hcl])
  have hrow := World.rowIs_alloc W2 #[.pointer (some ⟨m, 0, none⟩), .slice (some ⟨g1, 0, none⟩) 0 0, .slice none 0 0, .slice none 0 0] 75 (memF m g1 0 none 0 0 (.slice none 0 0)) (fun i hi => by
    match i, hi with
    | 0, _ => rfl
    | 1, _ => rfl
    | 2, _ => rfl
    | 3, _ => rfl)
  rw [hm] at hrow
  have hbF : Below w.heap.size w (W2.alloc (.cells #[.pointer (some ⟨m, 0, none⟩), .slice (some ⟨g1, 0, none⟩) 0 0, .slice none 0 0, .slice none 0 0] 75)) := hb2.alloc hb2.size _
  have hfr : ∀ o, (W2.alloc (.cells #[.pointer (some ⟨m, 0, none⟩), .slice (some ⟨g1, 0, none⟩) 0 0, .slice none 0 0, .slice none 0 0] 75)).frozen? ⟨g1, o, none⟩ = false := fun o =>
    (World.frozen?_of_block (Below.heap_alloc W2 _ g1 hlt1)).trans (HF.out o)
  have hgl : g1 < (W2.alloc (.cells #[.pointer (some ⟨m, 0, none⟩), .slice (some ⟨g1, 0, none⟩) 0 0, .slice none 0 0, .slice none 0 0] 75)).heap.size := by rw [World.size_alloc]; omega
  have HH := Lib.hid (And.intro hrow (And.intro hbF (And.intro hfr hgl)))
  clear hrow hbF hfr hgl
  generalize hWF : (W2.alloc (.cells #[.pointer (some ⟨m, 0, none⟩), .slice (some ⟨g1, 0, none⟩) 0 0, .slice none 0 0, .slice none 0 0] 75)) = WF at HH ⊢
  go_returns
  obtain ⟨f1, f2, f3, f4⟩ := HH.out
  refine ⟨m, g1, rfl, ⟨f1.cell (i := 0) (by simp), f1.cell (i := 1) (by simp), f1.cell (i := 2) (by simp), f1.cell (i := 3) (by simp), f1.lt, f4, fun j hj => by omega, fun b o _ hbo => ?_, IsRow.none_⟩, by omega, by omega, by omega, f2⟩
  rcases hbo with rfl | rfl
  · exact f1.frozen o
  · exact f3 o

set_option maxRecDepth 100000 in
set_option maxHeartbeats 4000000 in
theorem find_none (m g1 : Nat) (at_ n : Int) (r : Rg) (w : World) (h : MemAt w m 0 g1 none none 0 0 0 0 r) :
    Calls Try.prog 56 #[.pointer (some ⟨m, 0, none⟩), .int .u64 at_, .int .u64 n] w (GmWord.Gives w.heap.size w (.slice none 0 0)) := by
  unfold GmWord.Gives
  have hb0 : Below w.heap.size w w := Below.refl _ _
  have hself := h.self
  have hregs := h.regs
  have hsts := h.sts
  have hbys := h.bys
  have hlt := h.lt
  have hr : r.In 0 := ⟨fun i hi => by omega, fun i hi => by omega, fun i hi => by omega, fun i hi => by omega⟩
  go_enter Try.func56, Try.ntmps56
  go_wp2_with fail
  have hB : Below w.heap.size w ((w.alloc (.cells #[.pointer (some ⟨m, 0, none⟩)] 28)).alloc (.cells #[.int .u64 at_] 26)) := by go_grown
  have hM := h.below hB
  have hS := search_any 0 m g1 (w.heap.size + 1) w.heap.size at_ r ((w.alloc (.cells #[.pointer (some ⟨m, 0, none⟩)] 28)).alloc (.cells #[.int .u64 at_] 26)) (by decide) hr hM (by go_cell) (by go_cell) (by go_size) (by go_size) (by go_simp) (by go_simp)
  rw [show ((0 : Nat) : Int) = 0 from rfl] at hS
  refine hS.mono ?_
  rintro e W1 ⟨i, rfl, hi, _, _, hg1⟩
  obtain rfl : i = 0 := by omega
  have y0 := hM.fz m 0 hM.lt (.inl rfl)
  have y1 := hM.fz m 1 hM.lt (.inl rfl)
  have y2 := hM.fz m 2 hM.lt (.inl rfl)
  have y3 := hM.fz m 3 hM.lt (.inl rfl)
  have hb1 : Below w.heap.size w W1 := (show Below w.heap.size w _ by go_grown).trans (hg1.mono (by first | omega | go_size))
  obtain ⟨hc1, hf1⟩ := bcell hg1
  have hs1 := hg1.size
  try simp only [World.size_alloc, World.size_setCell, World.size_drew] at hs1
  have hl1_0_0 : W1.cell? ⟨w.heap.size, 0, none⟩ = some (.pointer (some ⟨m, 0, none⟩)) := (hc1 _ _ (by first | omega | go_size)).trans (by first | (with_reducible assumption) | go_cell)
  have hz1_0_0 : W1.frozen? ⟨w.heap.size, 0, none⟩ = false := (hf1 _ _ (by first | omega | go_size)).trans (by first | (with_reducible assumption) | (go_simp; done) | (simp [*]; done))
  have hk1_0 : w.heap.size < W1.heap.size := by omega
  have hl1_1_0 : W1.cell? ⟨w.heap.size + 1, 0, none⟩ = some (.int .u64 at_) := (hc1 _ _ (by first | omega | go_size)).trans (by first | (with_reducible assumption) | go_cell)
  have hz1_1_0 : W1.frozen? ⟨w.heap.size + 1, 0, none⟩ = false := (hf1 _ _ (by first | omega | go_size)).trans (by first | (with_reducible assumption) | (go_simp; done) | (simp [*]; done))
  have hk1_1 : w.heap.size + 1 < W1.heap.size := by omega
  have hl1_2_0 : W1.cell? ⟨m, 0, none⟩ = some (.pointer (some ⟨m, 0, none⟩)) := (hc1 _ _ (by first | omega | go_size)).trans (by first | (with_reducible assumption) | go_cell)
  have hz1_2_0 : W1.frozen? ⟨m, 0, none⟩ = false := (hf1 _ _ (by first | omega | go_size)).trans (by first | (with_reducible assumption) | (go_simp; done) | (simp [*]; done))
  have hl1_2_1 : W1.cell? ⟨m, 1, none⟩ = some (.slice (some ⟨g1, 0, none⟩) 0 0) := (hc1 _ _ (by first | omega | go_size)).trans (by first | (with_reducible assumption) | go_cell)
  have hz1_2_1 : W1.frozen? ⟨m, 1, none⟩ = false := (hf1 _ _ (by first | omega | go_size)).trans (by first | (with_reducible assumption) | (go_simp; done) | (simp [*]; done))
  have hl1_2_2 : W1.cell? ⟨m, 2, none⟩ = some (.slice none 0 0) := (hc1 _ _ (by first | omega | go_size)).trans (by first | (with_reducible assumption) | go_cell)
  have hz1_2_2 : W1.frozen? ⟨m, 2, none⟩ = false := (hf1 _ _ (by first | omega | go_size)).trans (by first | (with_reducible assumption) | (go_simp; done) | (simp [*]; done))
  have hl1_2_3 : W1.cell? ⟨m, 3, none⟩ = some (.slice none 0 0) := (hc1 _ _ (by first | omega | go_size)).trans (by first | (with_reducible assumption) | go_cell)
  have hz1_2_3 : W1.frozen? ⟨m, 3, none⟩ = false := (hf1 _ _ (by first | omega | go_size)).trans (by first | (with_reducible assumption) | (go_simp; done) | (simp [*]; done))
  have hk1_2 : m < W1.heap.size := by omega
  clear hg1 hc1 hf1
  go_wp2_with fail
  clear y0 y1 y2 y3 hM h hS
  go_region
  go_wp2
  go_ret
  exact ⟨rfl, hb1.drew⟩

set_option maxRecDepth 100000 in
set_option maxHeartbeats 2000000 in
theorem has_none (m g1 : Nat) (at_ n : Int) (r : Rg) (w : World) (h : MemAt w m 0 g1 none none 0 0 0 0 r) :
    Calls Try.prog 23 #[.pointer (some ⟨m, 0, none⟩), .int .u64 at_, .int .u64 n] w (GmWord.Gives w.heap.size w (.bool false)) := by
  unfold GmWord.Gives
  have hself := h.self
  have HF := Lib.hid (find_none m g1 at_ n r w h)
  clear h
  go_enter Try.func23, Try.ntmps23
  have hq1 := fun W a n c => run_neq_slice_nil_any (P := Try.prog) W 37 5 a n c 0 0 Try.underlying37
  go_wp2_with fail
  refine (valid_any m _ hself).mono ?_
  rintro e W ⟨rfl, rfl⟩
  go_wp2_with fail
  refine HF.out.mono ?_
  rintro e W1 ⟨rfl, hb1⟩
  go_wp2_with fail
  go_ret
  exact ⟨rfl, by go_grown⟩

end Go.Proofs.Ytmmgcmbniidieaa.GmNew0
