/- The law FreeOrders: what is given back is taken first, in the order in which it was given. For every input; no condition. -/
import Derived.Test.YtkejcdephnkkgaaFrLives
import Derived.Test.YtkejcdephnkkgaaFrAny
import Derived.Test.YtkejcdephnkkgaaFrTakeO
import Derived.Deep.DeepCutAuto
import Derived.Deep.RegionHeld3
import Derived.Deep.RegionWith
namespace Go.Proofs.Ytkejcdephnkkgaa.FreeOrders
open Go.ChangeShapes Go.WideShapes Go.ChangeAt Go.RowKit Rw Fe Fr FrRead FrAdd FrOpen FrBuild FrCalls FrTake FrGive FrLives FrOut FrAny FrTakeO Own
set_option linter.unusedVariables false
set_option linter.unusedSimpArgs false

theorem okR {s : Int} {B R : List Int} (h : Ok s (B ++ R)) : Ok s R := ⟨h.lo, h.hi, fun x hx => h.ins x (by simp [hx]), (List.nodup_append.1 h.nodup).2.1⟩
theorem inA {s : Int} {B R : List Int} (h : Ok s (B ++ R)) : inB s B = true := inB_iff.2 fun x hx => h.ins x (by simp [hx])
theorem inD {s : Int} {B R : List Int} (h : Ok s (B ++ R)) (c : Nat) : inB s (B.drop c) = true := inB_iff.2 fun x hx => h.ins x (by simp [List.mem_of_mem_drop hx])
theorem inT {s : Int} {B R : List Int} (h : Ok s (B ++ R)) (c : Nat) : inB s (B.take c) = true := inB_iff.2 fun x hx => h.ins x (by simp [List.mem_of_mem_take hx])
theorem okD {s : Int} {B R : List Int} (h : Ok s (B ++ R)) (c : Nat) : Ok s (B.drop c ++ R) := ⟨h.lo, h.hi, fun x hx => h.ins x (by
  rcases List.mem_append.1 hx with hx | hx
  · simp [List.mem_of_mem_drop hx]
  · simp [hx]), h.nodup.sublist ((List.drop_sublist c B).append (List.Sublist.refl R))⟩
theorem ndA {s : Int} {B R : List Int} (h : Ok s (B ++ R)) : (R ++ B).Nodup := List.perm_append_comm.nodup_iff.1 h.nodup
theorem ndD {s : Int} {B R : List Int} (h : Ok s (B ++ R)) (c : Nat) : (R ++ B.drop c).Nodup := (ndA h).sublist ((List.Sublist.refl R).append (List.drop_sublist c B))
theorem ndT {s : Int} {B R : List Int} (h : Ok s (B ++ R)) (c : Nat) : ((B.drop c ++ R) ++ B.take c).Nodup := by
  have e : ((B.drop c ++ R) ++ B.take c).Perm (B ++ R) := List.perm_append_comm.trans (by rw [← List.append_assoc, List.take_append_drop])
  exact e.nodup_iff.2 h.nodup
theorem zero (w : World) (B : Nat) (a : Addr) : Sl w B (some a) 0 0 [] := ⟨rfl, Nat.le_refl _, by unfold maxLen; omega, (fun e => by cases e), fun h => absurd h (by omega)⟩

set_option maxRecDepth 100000 in
set_option maxHeartbeats 16000000 in
theorem walk (s0 n0 k0 c0 : Int) (hw0 : (Lit.int .i64 s0).wf = true) (hw1 : (Lit.int .i64 n0).wf = true) (hw2 : (Lit.int .i64 k0).wf = true) (hw3 : (Lit.int .i64 c0).wf = true) (w : World) : Calls Try.prog 6 #[num s0, num n0, num k0, num c0] w (Lib.True1 w.heap.size w) := by
  unfold Lib.True1
  have hb0 : Below w.heap.size w w := Below.refl _ _
  go_enter Try.func6, Try.ntmps6
  go_wp2_with fail
  refine (lives_any _).mono ?_
  rintro eE W1 ⟨rfl, hg1⟩
  have hb1 : Below w.heap.size w W1 := (show Below w.heap.size w _ by go_grown).trans (hg1.mono (by first | omega | go_size))
  obtain ⟨hc1, hf1⟩ := bcell hg1
  have hs1 := hg1.size
  try simp only [World.size_alloc, World.size_setCell, World.size_drew] at hs1
  clear hg1 hc1 hf1
  go_wp2_with fail
  refine (Pick.pick_some s0 300 (by decide) hw0 _).mono ?_
  rintro e w' ⟨r, r0, r1, rfl, rfl⟩
  obtain ⟨s, hs⟩ : ∃ s : Nat, 1 + r = (s : Int) := ⟨(1 + r).toNat, by omega⟩
  have hs1 : 1 ≤ s := by omega
  have hs2 : s ≤ 300 := by omega
  go_wp2_with fail
  refine (new_is s _ (by omega) (by omega)).mono ?_
  rintro eE W2 ⟨C, cc, rfl, hS2, hN2, hg2⟩
  have S2 := Lib.hid hS2
  clear hS2 hN2 r0 r1
  have hb2 : Below w.heap.size w W2 := (show Below w.heap.size w _ by go_grown).trans (hg2.mono (by first | omega | go_size))
  obtain ⟨hc2, hf2⟩ := bcell hg2
  have hs2 := hg2.size
  try simp only [World.size_alloc, World.size_setCell, World.size_drew] at hs2
  clear hg2 hc2 hf2
  go_wp2_with fail
  refine (Pick.pick_some n0 s (by omega) hw1 _).mono ?_
  rintro e w' ⟨r', r0, r1, rfl, rfl⟩
  obtain ⟨n, hn⟩ : ∃ n : Nat, 1 + r' = (n : Int) := ⟨(1 + r').toNat, by omega⟩
  have hn1 : 1 ≤ n := by omega
  have hn2 : n ≤ s := by omega
  clear r0 r1
  go_wp2_with fail
  have hg3 : Below W2.heap.size W2 (W2.alloc (.cells #[num s, .slice C s cc] 56)) := (Below.refl _ _).alloc (Nat.le_refl _) _
  refine (take_ok s C s cc n (seqI s) _ (S2.out.on (Nat.le_refl _) hg3) (seqI_ok hs1 (by omega)) hn1 hn2 (by omega)).mono ?_
  rintro eE W4 ⟨A4, G4, a4, g4, rfl, hA4, hG4, nA4, nG4, hg4⟩
  obtain ⟨L, hL⟩ : ∃ L, (seqI s).take n = L := ⟨_, rfl⟩
  obtain ⟨R, hR⟩ : ∃ R, (seqI s).drop n = R := ⟨_, rfl⟩
  rw [hL] at hA4
  rw [hR] at hG4
  have LA := Lib.hid hA4
  have LG := Lib.hid hG4
  have HLR := Lib.hid (show Ok s (L ++ R) from by rw [← hL, ← hR, List.take_append_drop]; exact seqI_ok hs1 (by omega))
  obtain ⟨aa, rfl, _⟩ := hA4.el (k := 0) (by omega)
  have hle := hA4.le
  have hcm := max63 hA4.max
  clear hA4 hG4 nA4 nG4 hL hR hg3
  have hb4 : Below w.heap.size w W4 := (show Below w.heap.size w _ by go_grown).trans (hg4.mono (by first | omega | go_size))
  obtain ⟨hc4, hf4⟩ := bcell hg4
  have hs4 := hg4.size
  try simp only [World.size_alloc, World.size_setCell, World.size_drew] at hs4
  clear hg4 hc4 hf4
  go_wp2_with fail
  have hg5 : Below W4.heap.size W4 (W4.alloc (.cells #[num s, .slice G4 (s - n) g4] 56)) := (Below.refl _ _).alloc (Nat.le_refl _) _
  have hb5 : Below w.heap.size w (W4.alloc (.cells #[num s, .slice G4 (s - n) g4] 56)) := by go_grown
  have d0 : (W4.alloc (.cells #[num s, .slice G4 (s - n) g4] 56)).cell? ⟨W4.heap.size, 0, none⟩ = some (num s) := by go_cell
  have d1 : (W4.alloc (.cells #[num s, .slice G4 (s - n) g4] 56)).cell? ⟨W4.heap.size, 1, none⟩ = some (.slice G4 (s - n) g4) := by go_cell
  have y0 : (W4.alloc (.cells #[num s, .slice G4 (s - n) g4] 56)).frozen? ⟨W4.heap.size, 0, none⟩ = false := by simp
  have y1 : (W4.alloc (.cells #[num s, .slice G4 (s - n) g4] 56)).frozen? ⟨W4.heap.size, 1, none⟩ = false := by simp
  have LA5 := Lib.hid (LA.out.on (Nat.le_refl _) hg5)
  have LG5 := Lib.hid (LG.out.on (Nat.le_refl _) hg5)
  obtain ⟨bg, hbg⟩ : ∃ bg, W4.heap.size = bg := ⟨_, rfl⟩
  have hbg5 : bg < (W4.alloc (.cells #[num s, .slice G4 (s - n) g4] 56)).heap.size := by simp; omega
  rw [hbg] at d0 d1 y0 y1 ⊢
  generalize W4.alloc (.cells #[num s, .slice G4 (s - n) g4] 56) = W5 at hb5 d0 d1 y0 y1 LA5 LG5 hbg5 ⊢
  have hs5 := hb5.size
  clear hg5 hb4 hs4 LA LG hbg hb2 hs2 hb1 hs1
  refine (Pick.pick_some k0 n (by omega) hw2 _).mono ?_
  rintro e w' ⟨rk, r0, r1, rfl, rfl⟩
  obtain ⟨k, rfl⟩ := Int.eq_ofNat_of_zero_le r0
  have hkn : k < n := by omega
  obtain ⟨p, hp⟩ : ∃ p, n - k = p := ⟨_, rfl⟩
  have HPK := Lib.hid (show p + k = n by omega)
  have hi1 : (0 : Int) ≤ (k : Int) := by omega
  have hi2 : (k : Int) ≤ (n : Int) := by omega
  have hi3 : (k : Int) ≤ (a4 : Int) := by omega
  have hi4 : k ≤ a4 := by omega
  have hi5 : k ≤ n := by omega
  have hck : ¬ a4 = k := by omega
  have HU := Lib.hid (show ∀ U, Below W5.heap.size W5 U → Sl U U.heap.size (some (aa.add k)) p (a4 - k) (L.drop k) ∧ Sl U U.heap.size (some aa) k a4 (L.take k) from fun U hU => ⟨by
      have := (LA5.out.on (Nat.le_refl _) hU).drop hi5
      rw [if_neg hck, hp] at this
      exact this, (LA5.out.on (Nat.le_refl _) hU).take hi5⟩)
  clear r0 r1
  go_wp2_with fail
  obtain ⟨i0, hi, hz0', hz1', hz2'⟩ := i64info
  have I0 := Lib.hid hi
  have I1 := Lib.hid hz0'
  have I2 := Lib.hid hz1'
  have I3 := Lib.hid hz2'
  clear hi hz0' hz1' hz2'
  go_cut [15] (fun v wx => ∃ (C : Option Addr) (e : Nat), v = .slice C n e ∧ Hid (Sl wx wx.heap.size C n e (L.drop k ++ L.take k)) ∧ Below W5.heap.size W5 wx)
  case first =>
    as_aux_lemma =>
      have hb0r : Below W5.heap.size W5 W5 := Below.refl _ _
      go_region_law (first
        | (refine step_append_new (by simp [Region.wanted]) (.tmp 54) (.tmp 57) 54 rfl 3 i0 (.int .i64 0) 8 Try.underlying54 I0.out I1.out I2.out I3.out rfl (some ⟨W5.heap.size, 0, none⟩) rfl (Out.full (zero _ _ _)) (some (aa.add k)) p (a4 - k) (L.drop k) rfl (HU.out _ (by go_grown)).1 (fun e => by cases e) (by unfold maxLen; omega) (by omega) ?_; intro C1 e1 V1 hO1 hN1 hG1; obtain ⟨row1, hgr1, hrow1⟩ := hG1; have zz1 := hgr1.size; (try simp only [World.size_alloc, World.size_drew] at zz1); have hB1 : Below W5.heap.size W5 V1 := (show Below W5.heap.size W5 _ by go_grown).grown hgr1 (by first | omega | go_size) (fun g e => by obtain ⟨b, e1, e2⟩ := hrow1 g e; injection e1 with e1; subst e1; subst e2; exact Nat.le_refl _); have hC1 : ∀ b, C1 = some b → W5.heap.size ≤ b.block := (fun b e => (hN1 b e).elim (fun h => by injection h with h; subst h; exact Nat.le_refl _) (fun h => Nat.le_trans (by first | omega | go_size) h)))
        | (refine step_append_any (by simp [Region.wanted]) (.tmp 58) (.tmp 61) 54 rfl 3 i0 (.int .i64 0) 8 Try.underlying54 I0.out I1.out I2.out I3.out rfl C1 p e1 (L.drop k) rfl hO1 (some aa) k a4 (L.take k) rfl (HU.out _ hB1).2 (fun e => by cases e) (by unfold maxLen; omega) (by omega) ?_; intro C2 e2 V2 hO2 hN2 hG2; rw [HPK.out] at hO2 ⊢; obtain ⟨row2, hgr2, hrow2⟩ := hG2; have zz2 := hgr2.size; have hB2 : Below W5.heap.size W5 V2 := hB1.grown hgr2 (by first | omega | go_size) (fun g e => by obtain ⟨b, e1, e2⟩ := hrow2 g e; subst e2; exact hC1 b e1)))
      all_goals (go_wp2_with fail)
      all_goals go_meet
      all_goals exact ⟨C2, e2, rfl, Lib.hid hO2.sl, by first | exact hB2 | exact hB2.drew⟩
  case rest =>
  obtain ⟨AB, ab, rfl, LB, hbc⟩ := hcut
  obtain ⟨B, hB⟩ : ∃ B, L.drop k ++ L.take k = B := ⟨_, rfl⟩
  rw [hB] at LB
  have HB := Lib.hid (show Ok s (B ++ R) ∧ B.length = n ∧ R.length = s - n from by
    have hp : (B ++ R).Perm (L ++ R) := by
      rw [← hB]
      exact (List.perm_append_comm.trans (by rw [List.take_append_drop])).append_right _
    refine ⟨⟨HLR.out.lo, HLR.out.hi, fun x hx => HLR.out.ins x (hp.mem_iff.1 hx), hp.nodup_iff.2 HLR.out.nodup⟩, LB.out.len, LG5.out.len⟩)
  have hszc := hbc.size
  have hbw : Below w.heap.size w wc := hb5.trans (hbc.mono hs5)
  have LGc := Lib.hid (LG5.out.on (Nat.le_refl _) hbc)
  have q0 := (hbc.cell (p := ⟨bg, 0, none⟩) hbg5).trans d0
  have q1 := (hbc.cell (p := ⟨bg, 1, none⟩) hbg5).trans d1
  have z0 := (hbc.frozen (p := ⟨bg, 0, none⟩) hbg5).trans y0
  have z1 := (hbc.frozen (p := ⟨bg, 1, none⟩) hbg5).trans y1
  have hbgc : bg < wc.heap.size := by omega
  have hswc := hbw.size
  clear hB LG5 LA5 HU HLR hbc hb5 d0 d1 y0 y1 hbg5 hszc hs5 HPK hi1 hi2 hi3 hi4 hi5 hck hle hcm hp I0 I1 I2 I3
  go_wp2_with fail
  have G6 := give_ok s G4 AB (s - n) g4 n ab R B _ LGc.out LB.out (okR HB.out.1) (inA HB.out.1) (ndA HB.out.1) (by omega) (by omega)
  rw [show n + (s - n) = s from by omega] at G6
  refine G6.mono ?_
  clear G6
  rintro eE W6 ⟨C6, c6, rfl, hC6, nC6, hg6⟩
  have X6 := Lib.hid hC6
  have LB6 := Lib.hid (LB.out.on (Nat.le_refl _) hg6)
  have LG6 := Lib.hid (LGc.out.on (Nat.le_refl _) hg6)
  clear hC6 nC6 LB LGc
  have hb6 : Below w.heap.size w W6 := (show Below w.heap.size w _ by go_grown).trans (hg6.mono (by first | omega | go_size))
  obtain ⟨hc6, hf6⟩ := bcell hg6
  have hs6 := hg6.size
  try simp only [World.size_alloc, World.size_setCell, World.size_drew] at hs6
  have hl6_0_0 : W6.cell? ⟨bg, 0, none⟩ = some (num s) := (hc6 _ _ (by first | omega | go_size)).trans (by first | (with_reducible assumption) | go_cell)
  have hz6_0_0 : W6.frozen? ⟨bg, 0, none⟩ = false := (hf6 _ _ (by first | omega | go_size)).trans (by first | (with_reducible assumption) | (go_simp; done) | (simp [*]; done))
  have hl6_0_1 : W6.cell? ⟨bg, 1, none⟩ = some (.slice G4 (s - n) g4) := (hc6 _ _ (by first | omega | go_size)).trans (by first | (with_reducible assumption) | go_cell)
  have hz6_0_1 : W6.frozen? ⟨bg, 1, none⟩ = false := (hf6 _ _ (by first | omega | go_size)).trans (by first | (with_reducible assumption) | (go_simp; done) | (simp [*]; done))
  have hk6_0 : bg < W6.heap.size := by omega
  clear hg6 hc6 hf6
  go_wp2_with fail
  clear q0 q1 z0 z1
  have hgx : Below W6.heap.size W6 (W6.alloc (.cells #[num s, .slice C6 s c6] 56)) := (Below.refl _ _).alloc (Nat.le_refl _) _
  have X6' := Lib.hid (X6.out.on (Nat.le_refl _) hgx)
  have LB6' := Lib.hid (LB6.out.on (Nat.le_refl _) hgx)
  have LG6' := Lib.hid (LG6.out.on (Nat.le_refl _) hgx)
  clear X6 LB6 LG6 hgx
  have G7 := take_ok s C6 s c6 n (B ++ R) _ X6'.out HB.out.1 hn1 hn2 (by omega)
  refine G7.mono ?_
  clear G7
  rintro eE W7 ⟨A7, Y7, a7, y7, rfl, hA7, hY7, nA7, nY7, hg7⟩
  rw [List.take_left' HB.out.2.1] at hA7
  rw [List.drop_left' HB.out.2.1] at hY7
  have A7S := Lib.hid hA7
  have Y7S := Lib.hid hY7
  have X7 := Lib.hid (X6'.out.on (Nat.le_refl _) hg7)
  have LB7 := Lib.hid (LB6'.out.on (Nat.le_refl _) hg7)
  have LG7 := Lib.hid (LG6'.out.on (Nat.le_refl _) hg7)
  clear hA7 hY7 nA7 nY7 X6' LB6' LG6'
  have hb7 : Below w.heap.size w W7 := (show Below w.heap.size w _ by go_grown).trans (hg7.mono (by first | omega | go_size))
  obtain ⟨hc7, hf7⟩ := bcell hg7
  have hs7 := hg7.size
  try simp only [World.size_alloc, World.size_setCell, World.size_drew] at hs7
  have hl7_0_0 : W7.cell? ⟨bg, 0, none⟩ = some (num s) := (hc7 _ _ (by first | omega | go_size)).trans (by first | (with_reducible assumption) | go_cell)
  have hz7_0_0 : W7.frozen? ⟨bg, 0, none⟩ = false := (hf7 _ _ (by first | omega | go_size)).trans (by first | (with_reducible assumption) | (go_simp; done) | (simp [*]; done))
  have hl7_0_1 : W7.cell? ⟨bg, 1, none⟩ = some (.slice G4 (s - n) g4) := (hc7 _ _ (by first | omega | go_size)).trans (by first | (with_reducible assumption) | go_cell)
  have hz7_0_1 : W7.frozen? ⟨bg, 1, none⟩ = false := (hf7 _ _ (by first | omega | go_size)).trans (by first | (with_reducible assumption) | (go_simp; done) | (simp [*]; done))
  have hk7_0 : bg < W7.heap.size := by omega
  have hl7_1_0 : W7.cell? ⟨W6.heap.size, 0, none⟩ = some (num s) := (hc7 _ _ (by first | omega | go_size)).trans (by first | (with_reducible assumption) | go_cell)
  have hz7_1_0 : W7.frozen? ⟨W6.heap.size, 0, none⟩ = false := (hf7 _ _ (by first | omega | go_size)).trans (by first | (with_reducible assumption) | (go_simp; done) | (simp [*]; done))
  have hl7_1_1 : W7.cell? ⟨W6.heap.size, 1, none⟩ = some (.slice C6 s c6) := (hc7 _ _ (by first | omega | go_size)).trans (by first | (with_reducible assumption) | go_cell)
  have hz7_1_1 : W7.frozen? ⟨W6.heap.size, 1, none⟩ = false := (hf7 _ _ (by first | omega | go_size)).trans (by first | (with_reducible assumption) | (go_simp; done) | (simp [*]; done))
  have hk7_1 : W6.heap.size < W7.heap.size := by omega
  clear hg7 hc7 hf7
  go_wp2_with fail
  have hgy : Below W7.heap.size W7 (W7.alloc (.cells #[num s, .slice Y7 (s - n) y7] 56)) := (Below.refl _ _).alloc (Nat.le_refl _) _
  have Y8 := Lib.hid (Y7S.out.on (Nat.le_refl _) hgy)
  have X8 := Lib.hid (X7.out.on (Nat.le_refl _) hgy)
  have LB8 := Lib.hid (LB7.out.on (Nat.le_refl _) hgy)
  have LG8 := Lib.hid (LG7.out.on (Nat.le_refl _) hgy)
  refine (ints_is A7 AB n n a7 ab B B _ (A7S.out.on (Nat.le_refl _) hgy) LB8.out true (by simp)).mono ?_
  rintro eE W8 ⟨rfl, hg8⟩
  have Y9 := Lib.hid (Y8.out.on (Nat.le_refl _) hg8)
  have X9 := Lib.hid (X8.out.on (Nat.le_refl _) hg8)
  have LB9 := Lib.hid (LB8.out.on (Nat.le_refl _) hg8)
  have LG9 := Lib.hid (LG8.out.on (Nat.le_refl _) hg8)
  clear Y8 X8 LB8 LG8 Y7S X7 LB7 LG7 A7S hgy
  have hb8 : Below w.heap.size w W8 := (show Below w.heap.size w _ by go_grown).trans (hg8.mono (by first | omega | go_size))
  obtain ⟨hc8, hf8⟩ := bcell hg8
  have hs8 := hg8.size
  try simp only [World.size_alloc, World.size_setCell, World.size_drew] at hs8
  have hl8_0_0 : W8.cell? ⟨bg, 0, none⟩ = some (num s) := (hc8 _ _ (by first | omega | go_size)).trans (by first | (with_reducible assumption) | go_cell)
  have hz8_0_0 : W8.frozen? ⟨bg, 0, none⟩ = false := (hf8 _ _ (by first | omega | go_size)).trans (by first | (with_reducible assumption) | (go_simp; done) | (simp [*]; done))
  have hl8_0_1 : W8.cell? ⟨bg, 1, none⟩ = some (.slice G4 (s - n) g4) := (hc8 _ _ (by first | omega | go_size)).trans (by first | (with_reducible assumption) | go_cell)
  have hz8_0_1 : W8.frozen? ⟨bg, 1, none⟩ = false := (hf8 _ _ (by first | omega | go_size)).trans (by first | (with_reducible assumption) | (go_simp; done) | (simp [*]; done))
  have hk8_0 : bg < W8.heap.size := by omega
  have hl8_1_0 : W8.cell? ⟨W6.heap.size, 0, none⟩ = some (num s) := (hc8 _ _ (by first | omega | go_size)).trans (by first | (with_reducible assumption) | go_cell)
  have hz8_1_0 : W8.frozen? ⟨W6.heap.size, 0, none⟩ = false := (hf8 _ _ (by first | omega | go_size)).trans (by first | (with_reducible assumption) | (go_simp; done) | (simp [*]; done))
  have hl8_1_1 : W8.cell? ⟨W6.heap.size, 1, none⟩ = some (.slice C6 s c6) := (hc8 _ _ (by first | omega | go_size)).trans (by first | (with_reducible assumption) | go_cell)
  have hz8_1_1 : W8.frozen? ⟨W6.heap.size, 1, none⟩ = false := (hf8 _ _ (by first | omega | go_size)).trans (by first | (with_reducible assumption) | (go_simp; done) | (simp [*]; done))
  have hk8_1 : W6.heap.size < W8.heap.size := by omega
  have hl8_2_0 : W8.cell? ⟨W7.heap.size, 0, none⟩ = some (num s) := (hc8 _ _ (by first | omega | go_size)).trans (by first | (with_reducible assumption) | go_cell)
  have hz8_2_0 : W8.frozen? ⟨W7.heap.size, 0, none⟩ = false := (hf8 _ _ (by first | omega | go_size)).trans (by first | (with_reducible assumption) | (go_simp; done) | (simp [*]; done))
  have hl8_2_1 : W8.cell? ⟨W7.heap.size, 1, none⟩ = some (.slice Y7 (s - n) y7) := (hc8 _ _ (by first | omega | go_size)).trans (by first | (with_reducible assumption) | go_cell)
  have hz8_2_1 : W8.frozen? ⟨W7.heap.size, 1, none⟩ = false := (hf8 _ _ (by first | omega | go_size)).trans (by first | (with_reducible assumption) | (go_simp; done) | (simp [*]; done))
  have hk8_2 : W7.heap.size < W8.heap.size := by omega
  clear hg8 hc8 hf8
  go_wp2_with fail
  refine (same_is s s Y7 G4 (s - n) (s - n) y7 g4 R R true _ Y9.out LG9.out (by simp)).mono ?_
  rintro eE W10 ⟨rfl, hg10⟩
  have X10 := Lib.hid (X9.out.on (Nat.le_refl _) hg10)
  have LB10 := Lib.hid (LB9.out.on (Nat.le_refl _) hg10)
  have LG10 := Lib.hid (LG9.out.on (Nat.le_refl _) hg10)
  clear X9 LB9 LG9 Y9
  have hb10 : Below w.heap.size w W10 := (show Below w.heap.size w _ by go_grown).trans (hg10.mono (by first | omega | go_size))
  obtain ⟨hc10, hf10⟩ := bcell hg10
  have hs10 := hg10.size
  try simp only [World.size_alloc, World.size_setCell, World.size_drew] at hs10
  have hl10_0_0 : W10.cell? ⟨bg, 0, none⟩ = some (num s) := (hc10 _ _ (by first | omega | go_size)).trans (by first | (with_reducible assumption) | go_cell)
  have hz10_0_0 : W10.frozen? ⟨bg, 0, none⟩ = false := (hf10 _ _ (by first | omega | go_size)).trans (by first | (with_reducible assumption) | (go_simp; done) | (simp [*]; done))
  have hl10_0_1 : W10.cell? ⟨bg, 1, none⟩ = some (.slice G4 (s - n) g4) := (hc10 _ _ (by first | omega | go_size)).trans (by first | (with_reducible assumption) | go_cell)
  have hz10_0_1 : W10.frozen? ⟨bg, 1, none⟩ = false := (hf10 _ _ (by first | omega | go_size)).trans (by first | (with_reducible assumption) | (go_simp; done) | (simp [*]; done))
  have hk10_0 : bg < W10.heap.size := by omega
  have hl10_1_0 : W10.cell? ⟨W6.heap.size, 0, none⟩ = some (num s) := (hc10 _ _ (by first | omega | go_size)).trans (by first | (with_reducible assumption) | go_cell)
  have hz10_1_0 : W10.frozen? ⟨W6.heap.size, 0, none⟩ = false := (hf10 _ _ (by first | omega | go_size)).trans (by first | (with_reducible assumption) | (go_simp; done) | (simp [*]; done))
  have hl10_1_1 : W10.cell? ⟨W6.heap.size, 1, none⟩ = some (.slice C6 s c6) := (hc10 _ _ (by first | omega | go_size)).trans (by first | (with_reducible assumption) | go_cell)
  have hz10_1_1 : W10.frozen? ⟨W6.heap.size, 1, none⟩ = false := (hf10 _ _ (by first | omega | go_size)).trans (by first | (with_reducible assumption) | (go_simp; done) | (simp [*]; done))
  have hk10_1 : W6.heap.size < W10.heap.size := by omega
  clear hg10 hc10 hf10
  go_wp2_with fail
  obtain ⟨bx, hbx⟩ : ∃ bx, W6.heap.size = bx := ⟨_, rfl⟩
  rw [hbx] at hl10_1_0 hz10_1_0 hl10_1_1 hz10_1_1 hk10_1 ⊢
  have hbgx : bg < bx := by omega
  clear hb6 hs6 hl6_0_0 hz6_0_0 hl6_0_1 hz6_0_1 hk6_0 hb7 hs7 hl7_0_0 hz7_0_0 hl7_0_1 hz7_0_1 hk7_0 hl7_1_0 hz7_1_0 hl7_1_1 hz7_1_1 hk7_1
  clear hb8 hs8 hl8_0_0 hz8_0_0 hl8_0_1 hz8_0_1 hk8_0 hl8_1_0 hz8_1_0 hl8_1_1 hz8_1_1 hk8_1 hl8_2_0 hz8_2_0 hl8_2_1 hz8_2_1 hk8_2 hbgc hs10 hbx
  refine (Pick.pick_some c0 n (by omega) hw3 _).mono ?_
  rintro e w' ⟨rc, r0, r1, rfl, rfl⟩
  obtain ⟨c, rfl⟩ := Int.eq_ofNat_of_zero_le r0
  have hcn : c < n := by omega
  clear r0 r1
  go_wp2_with fail
  obtain ⟨ao, rfl, _⟩ := LB10.out.el (k := 0) (by omega)
  obtain ⟨p, hp⟩ : ∃ p, n - c = p := ⟨_, rfl⟩
  have hle := LB10.out.le
  have hcm := max63 LB10.out.max
  have hi1 : (0 : Int) ≤ (c : Int) := by omega
  have hi2 : (c : Int) ≤ (n : Int) := by omega
  have hi3 : (c : Int) ≤ (ab : Int) := by omega
  have hi4 : c ≤ ab := by omega
  have hi5 : c ≤ n := by omega
  have hck : ¬ ab = c := by omega
  have hpc : p + (s - n) + c = s := by omega
  have HPC := Lib.hid (show c + (p + (s - n)) = s by omega)
  clear hpc
  have HU := Lib.hid (show ∀ U, Below W10.heap.size W10 U → Sl U U.heap.size G4 (s - n) g4 R ∧ Sl U U.heap.size (some (ao.add c)) p (ab - c) (B.drop c) from fun U hU => ⟨LG10.out.on (Nat.le_refl _) hU, by
    have := (LB10.out.on (Nat.le_refl _) hU).drop hi5
    rw [if_neg hck, hp] at this
    exact this⟩)
  go_cut [20, 10] (fun v e wx => ∃ (bp : Nat) (C : Option Addr) (d : Nat), v = .pointer (some ⟨bp, 0, none⟩) ∧ e = num 0 ∧ W10.heap.size ≤ bp ∧ bp < wx.heap.size ∧ wx.cell? ⟨bp, 0, none⟩ = some (num s) ∧ wx.cell? ⟨bp, 1, none⟩ = some (.slice C (p + (s - n)) d) ∧ wx.frozen? ⟨bp, 0, none⟩ = false ∧ wx.frozen? ⟨bp, 1, none⟩ = false ∧ Hid (Sl wx wx.heap.size C (p + (s - n)) d (B.drop c ++ R)) ∧ Below W10.heap.size W10 wx)
  case first =>
    as_aux_lemma =>
      have hb0r : Below W10.heap.size W10 W10 := Below.refl _ _
      have hbn1 : ¬ W10.heap.size = bg := by omega
      have hbn2 : ¬ bg = W10.heap.size := by omega
      go_region_held3 (fun w' => w'.cell? ⟨bg, 0, none⟩ = some (num s) ∧ w'.cell? ⟨bg, 1, none⟩ = some (.slice G4 (s - n) g4))
        (first | exact ⟨e10, e11⟩ | go_keep)
        (first
          | (go_at_call 34; (with_reducible refine (give_ok s G4 (some (ao.add c)) (s - n) g4 p (ab - c) R (B.drop c) W10.drew (HU.out _ (by go_grown)).1 (HU.out _ (by go_grown)).2 (okR HB.out.1) (inD HB.out.1 c) (ndD HB.out.1 c) (by omega) (by omega)).mono ?_); rintro eE X1 ⟨C1, d1, rfl, hS1, hN1, hg1⟩; have zz1 := hg1.size; (try simp only [World.size_alloc, World.size_drew] at zz1); have hB1 : Below W10.heap.size W10 X1 := (show Below W10.heap.size W10 _ by go_grown).trans (hg1.mono (by first | omega | go_size)); have e10 : X1.cell? ⟨bg, 0, none⟩ = some (num s) := (hg1.cell (p := ⟨bg, 0, none⟩) (by first | omega | go_size)).trans (by first | (with_reducible assumption) | go_cell); have e11 : X1.cell? ⟨bg, 1, none⟩ = some (.slice G4 (s - n) g4) := (hg1.cell (p := ⟨bg, 1, none⟩) (by first | omega | go_size)).trans (by first | (with_reducible assumption) | go_cell))
          | (go_at_call 34; (with_reducible refine (give_ok s G4 (some (ao.add c)) (s - n) g4 p (ab - c) R (B.drop c) _ (HU.out _ (by go_grown)).1 (HU.out _ (by go_grown)).2 (okR HB.out.1) (inD HB.out.1 c) (ndD HB.out.1 c) (by omega) (by omega)).mono ?_); rintro eE X1 ⟨C1, d1, rfl, hS1, hN1, hg1⟩; have zz1 := hg1.size; (try simp only [World.size_alloc, World.size_drew] at zz1); have hB1 : Below W10.heap.size W10 X1 := (show Below W10.heap.size W10 _ by go_grown).trans (hg1.mono (by first | omega | go_size)); have e10 : X1.cell? ⟨bg, 0, none⟩ = some (num s) := (hg1.cell (p := ⟨bg, 0, none⟩) (by first | omega | go_size)).trans (by first | (with_reducible assumption) | go_cell); have e11 : X1.cell? ⟨bg, 1, none⟩ = some (.slice G4 (s - n) g4) := (hg1.cell (p := ⟨bg, 1, none⟩) (by first | omega | go_size)).trans (by first | (with_reducible assumption) | go_cell); have e12 : X1.cell? ⟨W10.heap.size, 0, none⟩ = some (num 0) := (hg1.cell (p := ⟨W10.heap.size, 0, none⟩) (by first | omega | go_size)).trans (by first | (with_reducible assumption) | go_cell); have e13 : X1.cell? ⟨W10.heap.size, 1, none⟩ = some (.slice none 0 0) := (hg1.cell (p := ⟨W10.heap.size, 1, none⟩) (by first | omega | go_size)).trans (by first | (with_reducible assumption) | go_cell); have f12 : X1.frozen? ⟨W10.heap.size, 0, none⟩ = false := (hg1.frozen (p := ⟨W10.heap.size, 0, none⟩) (by first | omega | go_size)).trans (by first | (with_reducible assumption) | (go_simp; done) | (simp [*]; done)); have f13 : X1.frozen? ⟨W10.heap.size, 1, none⟩ = false := (hg1.frozen (p := ⟨W10.heap.size, 1, none⟩) (by first | omega | go_size)).trans (by first | (with_reducible assumption) | (go_simp; done) | (simp [*]; done))))
      all_goals (go_wp2_with fail)
      all_goals go_meet
      · exact ⟨X1.heap.size, C1, d1, rfl, rfl, by omega, by simp, by go_cell, by go_cell, by simp, by simp, Lib.hid (hS1.on (Nat.le_refl _) ((Below.refl _ _).alloc (Nat.le_refl _) _)), by go_grown⟩
      · exact ⟨W10.heap.size, C1, d1, rfl, rfl, Nat.le_refl _, by go_size, by go_cell, by go_cell, by simp [*], by simp [*], Lib.hid (kept hS1 (FrOut.stored _ _ _ _) (fun g e => by injection e with e; subst e; exact hN1.far (by simp))), by go_grown⟩
  case rest =>
  obtain ⟨bp, C1, d1, rfl, rfl, hbp, hbp2, x0, x1, x2, x3, CS, hbc⟩ := hcut
  have hszc := hbc.size
  have HC := Lib.hid (show ∀ U, Below wc.heap.size wc U → Sl U U.heap.size C1 (p + (s - n)) d1 (B.drop c ++ R) from fun U hU => CS.out.on (Nat.le_refl _) hU)
  have HT := Lib.hid (show ∀ U, Below wc.heap.size wc U → Sl U U.heap.size (some ao) c ab (B.take c) from fun U hU => (LB10.out.on (Nat.le_refl _) (hbc.trans (hU.mono hszc))).take hi5)
  have G17 : ∀ W, Sl W W.heap.size C1 (p + (s - n)) d1 (B.drop c ++ R) → Sl W W.heap.size (some ao) c ab (B.take c) → Calls Try.prog 34 #[frV s C1 (p + (s - n)) d1, .slice (some ao) c ab] W (GiveP W s s (B ++ R)) := fun W h1 h2 => by
    have := give_ok s C1 (some ao) (p + (s - n)) d1 c ab (B.drop c ++ R) (B.take c) W h1 h2 (okD HB.out.1 c) (inT HB.out.1 c) (ndT HB.out.1 c) (by omega) (by omega)
    rw [HPC.out, ← List.append_assoc, List.take_append_drop] at this
    exact this
  clear CS HU
  go_wp2_with fail
  go_cut [13] (fun e wx => ∃ (C : Option Addr) (d : Nat), e = num 0 ∧ wx.cell? ⟨bp, 0, none⟩ = some (num s) ∧ wx.cell? ⟨bp, 1, none⟩ = some (.slice C s d) ∧ Hid (Sl wx wx.heap.size C s d (B ++ R)) ∧ Below W10.heap.size W10 wx ∧ bp < wx.heap.size)
  case first =>
    as_aux_lemma =>
      have hb0r : Below wc.heap.size wc wc := Below.refl _ _
      go_region_with (first
          | (go_at_call 34; (with_reducible refine (G17 _ (HC.out _ (by go_grown)) (HT.out _ (by go_grown))).mono ?_); rintro eE X2 ⟨C2, d2, rfl, hS2, hN2, hg2⟩; have zz2 := hg2.size; (try simp only [World.size_alloc, World.size_drew] at zz2); have hB2 : Below wc.heap.size wc X2 := (show Below wc.heap.size wc _ by go_grown).trans (hg2.mono (by first | omega | go_size)); have p0 : X2.cell? ⟨bp, 0, none⟩ = some (num s) := (hg2.cell (p := ⟨bp, 0, none⟩) (by first | omega | go_size)).trans (by first | (with_reducible assumption) | go_cell); have p1 : X2.cell? ⟨bp, 1, none⟩ = some (.slice C1 (p + (s - n)) d1) := (hg2.cell (p := ⟨bp, 1, none⟩) (by first | omega | go_size)).trans (by first | (with_reducible assumption) | go_cell); have o0 : X2.frozen? ⟨bp, 0, none⟩ = false := (hg2.frozen (p := ⟨bp, 0, none⟩) (by first | omega | go_size)).trans (by first | (with_reducible assumption) | (go_simp; done) | (simp [*]; done)); have o1 : X2.frozen? ⟨bp, 1, none⟩ = false := (hg2.frozen (p := ⟨bp, 1, none⟩) (by first | omega | go_size)).trans (by first | (with_reducible assumption) | (go_simp; done) | (simp [*]; done))))
      all_goals (go_wp2_with fail)
      all_goals go_meet
      all_goals
        have hb10 := hbc.trans (hB2.mono hszc)
        exact ⟨C2, d2, rfl, by go_cell, by go_cell, Lib.hid (kept hS2 (FrOut.stored _ _ _ _) (fun g e => by injection e with e; subst e; exact hN2.far hbp2)), by go_grown, by go_size⟩
  case rest =>
  obtain ⟨C2, d2, rfl, p0, p1, PS, hbd, hbp3⟩ := hcut
  have hszd := hbd.size
  have hbwd : Below w.heap.size w wc := hb10.trans (hbd.mono (by have := hb10.size; omega))
  have hswd := hbwd.size
  have X11 := Lib.hid (X10.out.on (Nat.le_refl _) hbd)
  have LB11 := Lib.hid (LB10.out.on (Nat.le_refl _) hbd)
  have LG11 := Lib.hid (LG10.out.on (Nat.le_refl _) hbd)
  have u0 := (hbd.cell (p := ⟨bx, 0, none⟩) hk10_1).trans hl10_1_0
  have u1 := (hbd.cell (p := ⟨bx, 1, none⟩) hk10_1).trans hl10_1_1
  have u2 := (hbd.frozen (p := ⟨bx, 0, none⟩) hk10_1).trans hz10_1_0
  have u3 := (hbd.frozen (p := ⟨bx, 1, none⟩) hk10_1).trans hz10_1_1
  have t0 := (hbd.cell (p := ⟨bg, 0, none⟩) hk10_0).trans hl10_0_0
  have t1 := (hbd.cell (p := ⟨bg, 1, none⟩) hk10_0).trans hl10_0_1
  have t2 := (hbd.frozen (p := ⟨bg, 0, none⟩) hk10_0).trans hz10_0_0
  have t3 := (hbd.frozen (p := ⟨bg, 1, none⟩) hk10_0).trans hz10_0_1
  have hbxw : bx < wc.heap.size := by omega
  have hbgw : bg < wc.heap.size := by omega
  clear hl10_0_0 hz10_0_0 hl10_0_1 hz10_0_1 hk10_0 hl10_1_0 hz10_1_0 hl10_1_1 hz10_1_1 hk10_1 X10 LB10 LG10 x0 x1 x2 x3 HC HT G17 hbc hszc hbd hszd hbp hbp2
  go_wp2_with fail
  refine (same_is s s C2 C6 s s d2 c6 (B ++ R) (B ++ R) true _ PS.out X11.out (by simp)).mono ?_
  rintro eE W12 ⟨rfl, hg12⟩
  have X12 := Lib.hid (X11.out.on (Nat.le_refl _) hg12)
  have LB12 := Lib.hid (LB11.out.on (Nat.le_refl _) hg12)
  have LG12 := Lib.hid (LG11.out.on (Nat.le_refl _) hg12)
  have hb12' : Below w.heap.size w W12 := hbwd.trans (hg12.mono hswd)
  have hb12 : Below w.heap.size w W12 := (show Below w.heap.size w _ by go_grown).trans (hg12.mono (by first | omega | go_size))
  obtain ⟨hc12, hf12⟩ := bcell hg12
  have hs12 := hg12.size
  try simp only [World.size_alloc, World.size_setCell, World.size_drew] at hs12
  have hl12_0_0 : W12.cell? ⟨bg, 0, none⟩ = some (num s) := (hc12 _ _ (by first | omega | go_size)).trans (by first | (with_reducible assumption) | go_cell)
  have hz12_0_0 : W12.frozen? ⟨bg, 0, none⟩ = false := (hf12 _ _ (by first | omega | go_size)).trans (by first | (with_reducible assumption) | (go_simp; done) | (simp [*]; done))
  have hl12_0_1 : W12.cell? ⟨bg, 1, none⟩ = some (.slice G4 (s - n) g4) := (hc12 _ _ (by first | omega | go_size)).trans (by first | (with_reducible assumption) | go_cell)
  have hz12_0_1 : W12.frozen? ⟨bg, 1, none⟩ = false := (hf12 _ _ (by first | omega | go_size)).trans (by first | (with_reducible assumption) | (go_simp; done) | (simp [*]; done))
  have hk12_0 : bg < W12.heap.size := by omega
  have hl12_1_0 : W12.cell? ⟨bx, 0, none⟩ = some (num s) := (hc12 _ _ (by first | omega | go_size)).trans (by first | (with_reducible assumption) | go_cell)
  have hz12_1_0 : W12.frozen? ⟨bx, 0, none⟩ = false := (hf12 _ _ (by first | omega | go_size)).trans (by first | (with_reducible assumption) | (go_simp; done) | (simp [*]; done))
  have hl12_1_1 : W12.cell? ⟨bx, 1, none⟩ = some (.slice C6 s c6) := (hc12 _ _ (by first | omega | go_size)).trans (by first | (with_reducible assumption) | go_cell)
  have hz12_1_1 : W12.frozen? ⟨bx, 1, none⟩ = false := (hf12 _ _ (by first | omega | go_size)).trans (by first | (with_reducible assumption) | (go_simp; done) | (simp [*]; done))
  have hk12_1 : bx < W12.heap.size := by omega
  clear hg12 hc12 hf12
  clear u0 u1 u2 u3 t0 t1 t2 t3 p0 p1 X11 LB11 LG11 PS
  by_cases hc0 : c = 0
  · subst hc0
    go_wp2_with fail
    go_ret
    exact ⟨rfl, hb12'⟩
  · have ec : ((c : Int) == 0) = false := by simp; omega
    go_wp2_with fail
    have FLB := Lib.hid (show ∀ g, W12.heap.size ≤ g → Far g (some ao) n from fun g h => LB12.out.far h)
    have FLG := Lib.hid (show ∀ g, W12.heap.size ≤ g → Far g G4 (s - n) from fun g h => LG12.out.far h)
    have G13 := take_own s C6 s c6 c (B ++ R) _ X12.out HB.out.1 (by omega) (by omega) (by omega)
    refine G13.mono ?_
    clear G13
    rintro eE W13 ⟨A13, Q13, a13, q13, rfl, hA13, hQ13, nA13, nQ13, oA13, hg13⟩
    have tl : (B ++ R).take c = B.take c := List.take_append_of_le_length (by rw [HB.out.2.1]; exact hi5)
    have dl : (B ++ R).drop c = B.drop c ++ R := List.drop_append_of_le_length (by rw [HB.out.2.1]; exact hi5)
    rw [tl] at hA13 oA13
    rw [dl] at hQ13
    clear tl dl
    have O13 := Lib.hid (show Out W13 3 A13 c a13 (B.take c) from ⟨hA13, .inr oA13⟩)
    have Q13S := Lib.hid hQ13
    have LB13 := Lib.hid (LB12.out.on (Nat.le_refl _) hg13)
    have LG13 := Lib.hid (LG12.out.on (Nat.le_refl _) hg13)
    have HA := Lib.hid (show ∀ ad, A13 = some ad → W12.heap.size ≤ ad.block ∧ ad.block < W13.heap.size from fun ad e => ⟨nA13 ad e (by omega), by
      obtain ⟨ad', e', hb, _⟩ := hA13.row (by omega)
      rw [e] at e'
      injection e' with e'
      subst e'
      exact hb⟩)
    have hg13' := hg13
    clear hA13 hQ13 nA13 nQ13 oA13 X12 LB12 LG12
    have ep : IntKind.i64.wrap ((n : Int) - (c : Int)) = (p : Int) := by rw [IntKind.wrap_i64]; omega
    have hb13 : Below w.heap.size w W13 := (show Below w.heap.size w _ by go_grown).trans (hg13.mono (by first | omega | go_size))
    obtain ⟨hc13, hf13⟩ := bcell hg13
    have hs13 := hg13.size
    try simp only [World.size_alloc, World.size_setCell, World.size_drew] at hs13
    have hl13_0_0 : W13.cell? ⟨bg, 0, none⟩ = some (num s) := (hc13 _ _ (by first | omega | go_size)).trans (by first | (with_reducible assumption) | go_cell)
    have hz13_0_0 : W13.frozen? ⟨bg, 0, none⟩ = false := (hf13 _ _ (by first | omega | go_size)).trans (by first | (with_reducible assumption) | (go_simp; done) | (simp [*]; done))
    have hl13_0_1 : W13.cell? ⟨bg, 1, none⟩ = some (.slice G4 (s - n) g4) := (hc13 _ _ (by first | omega | go_size)).trans (by first | (with_reducible assumption) | go_cell)
    have hz13_0_1 : W13.frozen? ⟨bg, 1, none⟩ = false := (hf13 _ _ (by first | omega | go_size)).trans (by first | (with_reducible assumption) | (go_simp; done) | (simp [*]; done))
    have hk13_0 : bg < W13.heap.size := by omega
    have hl13_1_0 : W13.cell? ⟨bx, 0, none⟩ = some (num s) := (hc13 _ _ (by first | omega | go_size)).trans (by first | (with_reducible assumption) | go_cell)
    have hz13_1_0 : W13.frozen? ⟨bx, 0, none⟩ = false := (hf13 _ _ (by first | omega | go_size)).trans (by first | (with_reducible assumption) | (go_simp; done) | (simp [*]; done))
    have hl13_1_1 : W13.cell? ⟨bx, 1, none⟩ = some (.slice C6 s c6) := (hc13 _ _ (by first | omega | go_size)).trans (by first | (with_reducible assumption) | go_cell)
    have hz13_1_1 : W13.frozen? ⟨bx, 1, none⟩ = false := (hf13 _ _ (by first | omega | go_size)).trans (by first | (with_reducible assumption) | (go_simp; done) | (simp [*]; done))
    have hk13_1 : bx < W13.heap.size := by omega
    clear hg13 hc13 hf13
    go_wp2_with fail
    have hgq : Below W13.heap.size W13 (W13.alloc (.cells #[num s, .slice Q13 (s - c) q13] 56)) := (Below.refl _ _).alloc (Nat.le_refl _) _
    refine (take_ok s Q13 (s - c) q13 p (B.drop c ++ R) _ (Q13S.out.on (Nat.le_refl _) hgq) (okD HB.out.1 c) (by omega) (by omega) (by omega)).mono ?_
    rintro eE W14 ⟨A14, G14, a14, g14, rfl, hA14, hG14, nA14, nG14, hg14⟩
    have tl : (B.drop c ++ R).take p = B.drop c := List.take_left' (by rw [List.length_drop, HB.out.2.1]; exact hp)
    have dl : (B.drop c ++ R).drop p = R := List.drop_left' (by rw [List.length_drop, HB.out.2.1]; exact hp)
    rw [tl] at hA14
    rw [dl] at hG14
    clear tl dl
    simp only [World.size_alloc] at nA14 nG14
    have hgq14 := hgq.trans (hg14.mono hgq.size)
    have LB14 := Lib.hid (LB13.out.on (Nat.le_refl _) hgq14)
    have LG14 := Lib.hid (LG13.out.on (Nat.le_refl _) hgq14)
    have O14 := Lib.hid (O13.out.below hgq14)
    clear hgq LB13 LG13 O13 Q13S
    have hb14 : Below w.heap.size w W14 := (show Below w.heap.size w _ by go_grown).trans (hg14.mono (by first | omega | go_size))
    obtain ⟨hc14, hf14⟩ := bcell hg14
    have hs14 := hg14.size
    try simp only [World.size_alloc, World.size_setCell, World.size_drew] at hs14
    have hl14_0_0 : W14.cell? ⟨bg, 0, none⟩ = some (num s) := (hc14 _ _ (by first | omega | go_size)).trans (by first | (with_reducible assumption) | go_cell)
    have hz14_0_0 : W14.frozen? ⟨bg, 0, none⟩ = false := (hf14 _ _ (by first | omega | go_size)).trans (by first | (with_reducible assumption) | (go_simp; done) | (simp [*]; done))
    have hl14_0_1 : W14.cell? ⟨bg, 1, none⟩ = some (.slice G4 (s - n) g4) := (hc14 _ _ (by first | omega | go_size)).trans (by first | (with_reducible assumption) | go_cell)
    have hz14_0_1 : W14.frozen? ⟨bg, 1, none⟩ = false := (hf14 _ _ (by first | omega | go_size)).trans (by first | (with_reducible assumption) | (go_simp; done) | (simp [*]; done))
    have hk14_0 : bg < W14.heap.size := by omega
    have hl14_1_0 : W14.cell? ⟨bx, 0, none⟩ = some (num s) := (hc14 _ _ (by first | omega | go_size)).trans (by first | (with_reducible assumption) | go_cell)
    have hz14_1_0 : W14.frozen? ⟨bx, 0, none⟩ = false := (hf14 _ _ (by first | omega | go_size)).trans (by first | (with_reducible assumption) | (go_simp; done) | (simp [*]; done))
    have hl14_1_1 : W14.cell? ⟨bx, 1, none⟩ = some (.slice C6 s c6) := (hc14 _ _ (by first | omega | go_size)).trans (by first | (with_reducible assumption) | go_cell)
    have hz14_1_1 : W14.frozen? ⟨bx, 1, none⟩ = false := (hf14 _ _ (by first | omega | go_size)).trans (by first | (with_reducible assumption) | (go_simp; done) | (simp [*]; done))
    have hk14_1 : bx < W14.heap.size := by omega
    have hl14_2_0 : W14.cell? ⟨W13.heap.size, 0, none⟩ = some (num s) := (hc14 _ _ (by first | omega | go_size)).trans (by first | (with_reducible assumption) | go_cell)
    have hz14_2_0 : W14.frozen? ⟨W13.heap.size, 0, none⟩ = false := (hf14 _ _ (by first | omega | go_size)).trans (by first | (with_reducible assumption) | (go_simp; done) | (simp [*]; done))
    have hl14_2_1 : W14.cell? ⟨W13.heap.size, 1, none⟩ = some (.slice Q13 (s - c) q13) := (hc14 _ _ (by first | omega | go_size)).trans (by first | (with_reducible assumption) | go_cell)
    have hz14_2_1 : W14.frozen? ⟨W13.heap.size, 1, none⟩ = false := (hf14 _ _ (by first | omega | go_size)).trans (by first | (with_reducible assumption) | (go_simp; done) | (simp [*]; done))
    have hk14_2 : W13.heap.size < W14.heap.size := by omega
    clear hg14 hc14 hf14
    clear hgq14
    have hbq14 : W13.heap.size < W14.heap.size := by omega
    obtain ⟨U, hU, hSU, uq0, uq1, huc, huf⟩ := store2 (W := W14) (b := W13.heap.size) (num s) (.slice G14 (s - c - p) g14) hl14_2_0 hl14_2_1
    have hgU : W14.grownBy U (some W13.heap.size) := hU ▸ FrOut.stored W14 W13.heap.size (num s) (.slice G14 (s - c - p) g14)
    have HSU := Lib.hid hSU
    have hne : bg ≠ W13.heap.size := by omega
    have ug0 := (huc ⟨bg, 0, none⟩ hne).trans hl14_0_0
    have ug1 := (huc ⟨bg, 1, none⟩ hne).trans hl14_0_1
    have hBU : Below w.heap.size w U := hb14.grown hgU (by omega) (fun g e => by injection e with e; subst e; omega)
    have OA := Lib.hid (O14.out.kept hgU (fun g e ad e2 => by injection e with e; subst e; have := HA.out ad e2; omega))
    have SD := Lib.hid (kept hA14 hgU (fun g e => by injection e with e; subst e; exact nA14.far (by omega)))
    have SQ := Lib.hid (kept hG14 hgU (fun g e => by injection e with e; subst e; exact nG14.far (by omega)))
    have SB := Lib.hid (kept LB14.out hgU (fun g e => by injection e with e; subst e; exact FLB.out _ (by omega)))
    have SG := Lib.hid (kept LG14.out hgU (fun g e => by injection e with e; subst e; exact FLG.out _ (by omega)))
    have HCP := Lib.hid (show c + p = n from by omega)
    obtain ⟨i0, hi, hz0', hz1', hz2'⟩ := i64info
    have I0 := Lib.hid hi
    have I1 := Lib.hid hz0'
    have I2 := Lib.hid hz1'
    have I3 := Lib.hid hz2'
    have HU2 := Lib.hid hU
    clear hi hz0' hz1' hz2' hSU hU huc huf hgU hA14 hG14 LB14 LG14 O14
    go_wp2_with (at_builtin; rw [HU2.out]; refine wpList_step fun K hK => ?_; refine step_append_any (by simp [Region.wanted, yielded]) (.tmp 150) (.tmp 151) 54 rfl 3 i0 (.int .i64 0) 8 Try.underlying54 I0.out I1.out I2.out I3.out rfl A13 c a13 (B.take c) rfl OA.out A14 p a14 (B.drop c) rfl SD.out (fun e => by obtain ⟨b, e2, _⟩ := SD.out.el (k := 0) (by omega); rw [e] at e2; cases e2) (by unfold maxLen; omega) (by omega) ?_; intro Cn cn V hOn hN hG; obtain ⟨row, hgr, hrow⟩ := hG; rw [HCP.out, List.take_append_drop] at hOn; rw [HCP.out]; have hrw : ∀ g, row = some g → W12.heap.size ≤ g ∧ g < W13.heap.size := (fun g e => by obtain ⟨b, e1, e2⟩ := hrow g e; subst e2; exact HA.out b e1); have hsV := hgr.size; (rw [HSU.out] at hsV); have hBV : Below w.heap.size w V := hBU.grown hgr (by rw [HSU.out]; omega) (fun g e => by have := hrw g e; omega); have vB := Lib.hid (kept SB.out hgr (fun g e => FLB.out g (hrw g e).1)); have vG := Lib.hid (kept SG.out hgr (fun g e => FLG.out g (hrw g e).1)); have vQ := Lib.hid (kept SQ.out hgr (fun g e => nG14.far (by have := hrw g e; omega))); have v0 := (World.cell?_of_block (a := ⟨W13.heap.size, 0, none⟩) (hgr.block (W13.heap.size) (by rw [HSU.out]; omega) (fun e => by have := hrw _ e.symm; omega))).trans uq0; have v1 := (World.cell?_of_block (a := ⟨W13.heap.size, 1, none⟩) (hgr.block (W13.heap.size) (by rw [HSU.out]; omega) (fun e => by have := hrw _ e.symm; omega))).trans uq1; have v2 := (World.cell?_of_block (a := ⟨bg, 0, none⟩) (hgr.block (bg) (by rw [HSU.out]; omega) (fun e => by have := hrw _ e.symm; omega))).trans ug0; have v3 := (World.cell?_of_block (a := ⟨bg, 1, none⟩) (hgr.block (bg) (by rw [HSU.out]; omega) (fun e => by have := hrw _ e.symm; omega))).trans ug1; have HOn := Lib.hid hOn; clear hOn hN hrow hgr hrw; refine hK _ _ ?_)
    have hbvV : W13.heap.size < V.heap.size := by omega
    refine (ints_is Cn (some ao) n n cn ab B B _ HOn.out.sl vB.out true (by simp)).mono ?_
    rintro eE W15 ⟨rfl, hg15⟩
    have vG2 := Lib.hid (vG.out.on (Nat.le_refl _) hg15)
    have vQ2 := Lib.hid (vQ.out.on (Nat.le_refl _) hg15)
    have w0 := (hg15.cell (p := ⟨W13.heap.size, 0, none⟩) hbvV).trans v0
    have w1 := (hg15.cell (p := ⟨W13.heap.size, 1, none⟩) hbvV).trans v1
    have w2 := (hg15.cell (p := ⟨bg, 0, none⟩) (by show bg < V.heap.size; omega)).trans v2
    have w3 := (hg15.cell (p := ⟨bg, 1, none⟩) (by show bg < V.heap.size; omega)).trans v3
    have hBW : Below w.heap.size w W15 := hBV.trans (hg15.mono hBV.size)
    clear v0 v1 v2 v3 vG vQ hg15
    go_wp2_with fail
    refine (same_is s s G14 G4 (s - c - p) (s - n) g14 g4 R R true _ vQ2.out vG2.out (by simp)).mono ?_
    rintro eE W16 ⟨rfl, hg16⟩
    have hBW2 : Below w.heap.size w W16 := hBW.trans (hg16.mono hBW.size)
    clear hg16
    go_wp2_with fail
    go_ret
    exact ⟨rfl, hBW2⟩

set_option maxRecDepth 100000 in
theorem lifted (os : Os) (started : os.Started) (H : Type) (enc : TypeId × Value → H) :
    ReturnsInHanded {} Try.checked os 6 .any (Rows.freeOrdersSpec.pre6 enc Try.prog Try.f6 Rows.freeOrdersRow.domain false) (Rows.freeOrdersSpec.post enc Try.prog Try.f6 false true false false) := by
  refine Lib.lifted (C := Try.checked) (tb := 4) H enc Lib.own started (by kernel_rfl) Try.func6
    (ChangeSpec.witness6 (enc := enc) (C := Try.checked) false ⟨#[], #[.int .i64 0, .int .i64 0, .int .i64 0, .int .i64 0], []⟩ 8 (by kernel_rfl) (by kernel_rfl) (by kernel_rfl) (by kernel_rfl))
    Lib.laidOut (Lib.readable_of (by kernel_rfl)) rfl Try.underlying4 rfl ?_ ?_
  · intro ds h
    match ds, h with
    | [_, _, _, _], _ => exact ⟨rfl, rfl, rfl⟩
  · intro W base args ds p hval hA hfz hlt
    rw [Try.params6] at hval
    have hA' : DataW.TrodAll enc Try.prog W 0 (fun _ => true) true Try.f6.params.toList args.toList ds p := hA
    rw [Try.params6] at hA'
    obtain ⟨v0, vs0, d0, ds0, p0, q0, hargs, rfl, rfl, h0, r0⟩ := trodAll_cons hA'
    obtain ⟨v1, vs1, d1, ds1, p1, q1, rfl, rfl, rfl, h1, r1⟩ := trodAll_cons r0
    obtain ⟨v2, vs2, d2, ds2, p2, q2, rfl, rfl, rfl, h2, r2⟩ := trodAll_cons r1
    obtain ⟨v3, vs3, d3, ds3, p3, q3, rfl, rfl, rfl, h3, r3⟩ := trodAll_cons r2
    obtain ⟨rfl, rfl, rfl⟩ := trodAll_nil r3
    obtain rfl : args = #[v0, v1, v2, v3] := by cases args; simp_all
    obtain ⟨a0, rfl, rfl, rfl, w0⟩ := open_int Try.underlying3 (hval 0 3 v0 rfl rfl) h0
    obtain ⟨a1, rfl, rfl, rfl, w1⟩ := open_int Try.underlying3 (hval 1 3 v1 rfl rfl) h1
    obtain ⟨a2, rfl, rfl, rfl, w2⟩ := open_int Try.underlying3 (hval 2 3 v2 rfl rfl) h2
    obtain ⟨a3, rfl, rfl, rfl, w3⟩ := open_int Try.underlying3 (hval 3 3 v3 rfl rfl) h3
    exact walk a0 a1 a2 a3 w0 w1 w2 w3 W

theorem over : Rows.freeOrdersRow.holds Try.pinned (OpenSpec.ofChange Rows.freeOrdersSpec) :=
  OpenClaim.holds_of_wide 6 Try.f6 rfl rfl rfl rfl rfl rfl rfl ⟨rfl, rfl, rfl, rfl, rfl⟩ rfl rfl rfl rfl rfl (by kernel_rfl) Try.func6 (by kernel_rfl)
    (of_decide_eq_true (by kernel_rfl)) (by unfold Func.isWrapper; first | (rw [if_pos (by decide +kernel)]; kernel_rfl) | (rw [if_neg (by decide +kernel)]; exact ⟨rfl, rfl⟩))
    (fun os started H enc _ => lifted os started H enc)

/-- The statement. -/
theorem proved : Rows.FreeOrdersSaid :=
  over

end Go.Proofs.Ytkejcdephnkkgaa.FreeOrders
