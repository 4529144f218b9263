/- The law FreeOnce: no number is taken twice; what is taken and what is free together are all numbers; Give undoes Take. For every size and list of calls; no condition. -/
import Derived.Test.YtkejcdephnkkgaaFrLives
import Derived.Test.YtkejcdephnkkgaaFrOut
import Derived.Test.YtkejcdephnkkgaaArgs
import Derived.Deep.DeepCutAuto
import Derived.Deep.RegionHeld3
import Derived.Maps.Own
namespace Go.Proofs.Ytkejcdephnkkgaa.FreeOnce
open Go.ChangeShapes Go.WideShapes Go.ChangeAt Go.RowKit Rw Fe Fr FrRead FrAdd FrOpen FrBuild FrCalls FrTake FrGive FrLives FrOut Own
set_option linter.unusedVariables false
set_option linter.unusedSimpArgs false

/-- The list f (its variable's block bf) and the numbers that are out, between two calls. -/
structure St (w : World) (bf s : Nat) (W : World) (A : Option Addr) (n c : Nat) (F : List Int) (Ao : Option Addr) (m co : Nat) (O : List Int) : Prop where
  bel : Below w.heap.size w W
  lo : w.heap.size ≤ bf
  lt : bf < W.heap.size
  c0 : W.cell? ⟨bf, 0, none⟩ = some (num s)
  c1 : W.cell? ⟨bf, 1, none⟩ = some (.slice A n c)
  z0 : W.frozen? ⟨bf, 0, none⟩ = false
  z1 : W.frozen? ⟨bf, 1, none⟩ = false
  sf : Sl W W.heap.size A n c F
  ff : Far bf A n
  so : Out W 3 Ao m co O
  no : ∀ ad, Ao = some ad → w.heap.size ≤ ad.block ∧ ad.block ≠ bf ∧ ad.block < W.heap.size ∧ Far ad.block A n
  sum : n + m = s
  nd : (F ++ O).Nodup
  ins : ∀ x ∈ F ++ O, 0 ≤ x ∧ x < (s : Int)
theorem St.below {w : World} {bf s : Nat} {W W' : World} {A : Option Addr} {n c : Nat} {F : List Int} {Ao : Option Addr} {m co : Nat} {O : List Int} (h : St w bf s W A n c F Ao m co O) (hb : Below W.heap.size W W') : St w bf s W' A n c F Ao m co O :=
  ⟨h.bel.trans (hb.mono h.bel.size), h.lo, Nat.lt_of_lt_of_le h.lt hb.size, (hb.cell (p := ⟨bf, 0, none⟩) h.lt).trans h.c0, (hb.cell (p := ⟨bf, 1, none⟩) h.lt).trans h.c1, (hb.frozen (p := ⟨bf, 0, none⟩) h.lt).trans h.z0, (hb.frozen (p := ⟨bf, 1, none⟩) h.lt).trans h.z1,
    h.sf.on (Nat.le_refl _) hb, h.ff, h.so.below hb, fun ad e => ⟨(h.no ad e).1, (h.no ad e).2.1, Nat.lt_of_lt_of_le (h.no ad e).2.2.1 hb.size, (h.no ad e).2.2.2⟩, h.sum, h.nd, h.ins⟩
theorem St.ok {w : World} {bf s : Nat} {W : World} {A : Option Addr} {n c : Nat} {F : List Int} {Ao : Option Addr} {m co : Nat} {O : List Int} (h : St w bf s W A n c F Ao m co O) (h1 : 1 ≤ s) (h2 : s ≤ 32768) : Ok s F :=
  ⟨by omega, by omega, fun x hx => h.ins x (by simp [hx]), (List.nodup_append.1 h.nd).1⟩

theorem zeroB (w : World) : (zeroValue 4).run Try.prog w = .ok (.bool false) w := by kernel_rfl
theorem St.took {w : World} {bf s : Nat} {W : World} {A : Option Addr} {n c : Nat} {F : List Int} {Ao : Option Addr} {m co : Nat} {O : List Int} (h : St w bf s W A n c F Ao m co O) {U : World} {A2 Cn : Option Addr} {k a2 cn M : Nat} (hk : 1 ≤ k) (hkn : k ≤ n)
    (b : Below w.heap.size w U) (lt : bf < U.heap.size) (c0 : U.cell? ⟨bf, 0, none⟩ = some (num s)) (c1 : U.cell? ⟨bf, 1, none⟩ = some (.slice A2 (n - k) a2)) (z0 : U.frozen? ⟨bf, 0, none⟩ = false) (z1 : U.frozen? ⟨bf, 1, none⟩ = false)
    (sf : Sl U U.heap.size A2 (n - k) a2 (F.drop k)) (n2 : New W.heap.size A2 (n - k)) (so : Out U 3 Cn (m + k) cn (O ++ F.take k)) (hn : ∀ b, Cn = some b → Ao = some b ∨ M ≤ b.block) (hM : ∀ ad, A2 = some ad → 0 < n - k → ad.block < M) (hWM : W.heap.size ≤ M) :
    St w bf s U A2 (n - k) a2 (F.drop k) Cn (m + k) cn (O ++ F.take k) := by
  have hp : (F.drop k ++ (O ++ F.take k)).Perm (F ++ O) := by
    have e1 : (F.drop k ++ (O ++ F.take k)).Perm (F.drop k ++ (F.take k ++ O)) := List.perm_append_comm.append_left _
    have e2 : (F.drop k ++ (F.take k ++ O)).Perm (F ++ O) := by
      rw [← List.append_assoc]
      exact (List.perm_append_comm.trans (by rw [List.take_append_drop])).append_right _
    exact e1.trans e2
  refine ⟨b, h.lo, lt, c0, c1, z0, z1, sf, n2.far h.lt, so, fun ad e => ?_, by have := h.sum; omega, hp.nodup_iff.2 h.nd, fun x hx => h.ins x (hp.mem_iff.1 hx)⟩
  have hlt : ad.block < U.heap.size := by
    obtain ⟨ad', e', hb, _⟩ := so.sl.row (by omega)
    rw [e] at e'
    injection e' with e'
    subst e'
    exact hb
  rcases hn ad e with h1 | h1
  · obtain ⟨q1, q2, q3, _⟩ := h.no ad h1
    exact ⟨q1, q2, hlt, n2.far q3⟩
  · have hb := h.bel.size
    have := h.lt
    exact ⟨by omega, by omega, hlt, fun a2' e2 h0 e3 => by have := hM a2' e2 h0; omega⟩
theorem St.gave {w : World} {bf s : Nat} {W : World} {A : Option Addr} {n c : Nat} {F : List Int} {ao : Addr} {m co : Nat} {O : List Int} (h : St w bf s W A n c F (some ao) m co O) {U : World} {C1 : Option Addr} {p d1 : Nat} (hp : p ≤ m)
    (b : Below w.heap.size w U) (lt : bf < U.heap.size) (c0 : U.cell? ⟨bf, 0, none⟩ = some (num s)) (c1 : U.cell? ⟨bf, 1, none⟩ = some (.slice C1 (m - p + n) d1)) (z0 : U.frozen? ⟨bf, 0, none⟩ = false) (z1 : U.frozen? ⟨bf, 1, none⟩ = false)
    (sf : Sl U U.heap.size C1 (m - p + n) d1 (O.drop p ++ F)) (n1 : New W.heap.size C1 (m - p + n)) (so : Sl U U.heap.size (some ao) p p (O.take p)) (hWU : W.heap.size ≤ U.heap.size) :
    St w bf s U C1 (m - p + n) d1 (O.drop p ++ F) (some ao) p p (O.take p) := by
  have hq : ((O.drop p ++ F) ++ O.take p).Perm (F ++ O) := by
    have e1 : ((O.drop p ++ F) ++ O.take p).Perm ((F ++ O.drop p) ++ O.take p) := List.perm_append_comm.append_right _
    have e2 : ((F ++ O.drop p) ++ O.take p).Perm (F ++ O) := by
      rw [List.append_assoc]
      exact (List.perm_append_comm.trans (by rw [List.take_append_drop])).append_left _
    exact e1.trans e2
  obtain ⟨q1, q2, q3, _⟩ := h.no ao rfl
  refine ⟨b, h.lo, lt, c0, c1, z0, z1, sf, n1.far h.lt, Out.full so, fun ad e => ?_, by have := h.sum; omega, hq.nodup_iff.2 h.nd, fun x hx => h.ins x (hq.mem_iff.1 hx)⟩
  injection e with e
  subst e
  exact ⟨q1, q2, by omega, n1.far q3⟩
theorem ok_drop {s : Int} {F : List Int} (h : Ok s F) (k : Nat) : Ok s (F.drop k) := ⟨h.lo, h.hi, fun x hx => h.ins x (List.mem_of_mem_drop hx), h.nodup.sublist (List.drop_sublist k F)⟩
theorem in_take {s : Int} {F : List Int} (h : Ok s F) (k : Nat) : inB s (F.take k) = true := inB_iff.2 fun x hx => h.ins x (List.mem_of_mem_take hx)
theorem nd_rot {s : Int} {F : List Int} (h : Ok s F) (k : Nat) : (F.drop k ++ F.take k).Nodup := by
  have e : (F.drop k ++ F.take k).Perm F := List.perm_append_comm.trans (by rw [List.take_append_drop])
  exact e.nodup_iff.2 h.nodup

set_option maxRecDepth 100000 in
set_option maxHeartbeats 4000000 in
theorem walk_many (s : Int) (A : Option Addr) (n c : Nat) (w : World) (hn : 100 < n) (hn2 : n ≤ 9223372036854775807) : Calls Try.prog 5 #[num s, .slice A n c] w (Lib.True1 w.heap.size w) := by
  unfold Lib.True1
  have hb0 : Below w.heap.size w w := Below.refl _ _
  have h1 : decide ((100 : Int) < (n : Int)) = true := decide_eq_true (by omega)
  clear hn
  go_enter Try.func5, Try.ntmps5
  go_wp2_with fail
  refine (lives_any _).mono ?_
  rintro eE W1 ⟨rfl, hg1⟩
  have hb1 : Below w.heap.size w W1 := (show Below w.heap.size w _ by go_grown).trans (hg1.mono (by first | omega | go_size))
  obtain ⟨hc1, hf1⟩ := bcell hg1
  have hs1 := hg1.size
  try simp only [World.size_alloc, World.size_setCell, World.size_drew] at hs1
  clear hg1 hc1 hf1
  go_wp2_with fail
  go_ret
  exact ⟨rfl, by go_grown⟩

set_option maxRecDepth 100000 in
set_option maxHeartbeats 16000000 in
theorem walk_ok (s0 : Int) (Az : Option Addr) (N cz : Nat) (zs : List Int) (w : World) (hN : N ≤ 100) (hs0 : (Lit.int .i64 s0).wf = true) (hzl : zs.length = N) (hz : ∀ z ∈ zs, (Lit.int .i64 z).wf = true)
    (hrow : IsRow w w.heap.size 1 Az N (fun j => num (zs.getD j 0))) : Calls Try.prog 5 #[num s0, .slice Az N cz] w (Lib.True1 w.heap.size w) := by
  unfold Lib.True1
  have hb0 : Below w.heap.size w w := Below.refl _ _
  have h1 : decide ((100 : Int) < (N : Int)) = false := decide_eq_false (by omega)
  have HROW := Lib.hid hrow
  have HZ := Lib.hid hz
  have HZL := Lib.hid hzl
  clear hrow hz hzl
  go_enter Try.func5, Try.ntmps5
  go_wp2_with fail
  refine (lives_any _).mono ?_
  rintro eE W1 ⟨rfl, hg1⟩
  have hb1 : Below w.heap.size w W1 := (show Below w.heap.size w _ by go_grown).trans (hg1.mono (by first | omega | go_size))
  obtain ⟨hc1, hf1⟩ := bcell hg1
  have hs1 := hg1.size
  try simp only [World.size_alloc, World.size_setCell, World.size_drew] at hs1
  clear hg1 hc1 hf1
  go_wp2_with fail
  refine (Pick.pick_some s0 300 (by decide) hs0 _).mono ?_
  rintro e w' ⟨r, r0, r1, rfl, rfl⟩
  obtain ⟨s, hs⟩ : ∃ s : Nat, 1 + r = (s : Int) := ⟨(1 + r).toNat, by omega⟩
  have hs1 : 1 ≤ s := by omega
  have hs2 : s ≤ 300 := by omega
  go_wp2_with fail
  refine (new_is s _ (by omega) (by omega)).mono ?_
  rintro eE W2 ⟨C, cc, rfl, hS2, hN2, hg2⟩
  have S2 := Lib.hid hS2
  have N2 := Lib.hid hN2
  clear hS2 hN2 r0 r1
  have hb2 : Below w.heap.size w W2 := (show Below w.heap.size w _ by go_grown).trans (hg2.mono (by first | omega | go_size))
  obtain ⟨hc2, hf2⟩ := bcell hg2
  have hs2 := hg2.size
  try simp only [World.size_alloc, World.size_setCell, World.size_drew] at hs2
  clear hg2 hc2 hf2
  go_wp2_with fail
  have hg3 : Below W2.heap.size W2 (W2.alloc (.cells #[num s, .slice C s cc] 56)) := (Below.refl _ _).alloc (Nat.le_refl _) _
  have hS0 : St w W2.heap.size s (W2.alloc (.cells #[num s, .slice C s cc] 56)) C s cc (seqI s) none 0 0 [] := by
    refine ⟨by go_grown, by omega, by simp, by go_cell, by go_cell, by simp, by simp, S2.out.on (Nat.le_refl _) hg3, S2.out.far (Nat.le_refl _), Out.nil _ _, (fun ad e => by cases e), by omega, ?_, ?_⟩
    · rw [List.append_nil]; exact seqI_nodup s
    · intro x hx
      rw [List.append_nil] at hx
      exact seqI_mem.1 hx
  obtain ⟨bf, hbf⟩ : ∃ bf, W2.heap.size = bf := ⟨_, rfl⟩
  rw [hbf] at hS0 ⊢
  generalize W2.alloc (.cells #[num s, .slice C s cc] 56) = W3 at hS0 ⊢
  have HS0 := Lib.hid hS0
  clear hS0 hg3 hbf S2 N2 hb2 hs2 hb1
  go_loopw [7, 8] (fun o i wr => ∃ (j : Nat) (A : Option Addr) (n c : Nat) (F : List Int) (Ao : Option Addr) (m co : Nat) (O : List Int), j ≤ N ∧ i = num j ∧ o = .slice Ao m co ∧ Hid (St w bf s wr A n c F Ao m co O)) (fun o i wr => N - (intOf i).toNat)
  case atStart => exact ⟨0, C, s, cc, seqI s, none, 0, 0, [], by omega, rfl, rfl, HS0⟩
  case round =>
    obtain ⟨j, A, n, c, F, Ao, m, co, O, hj, rfl, rfl, HS⟩ := hrel
    clear HS0
    by_cases hlt : j < N
    · obtain ⟨ad, rfl, hbl, hcell⟩ := HROW.out (by omega)
      have hbel := HS.out.bel
      have hbsz := hbel.size
      have k0 : wr.cell? (ad.add j) = some (num (zs.getD j 0)) := (hbel.cell (p := ad.add j) (by rw [block_of_add]; exact hbl)).trans (hcell j (by omega))
      have hwf : (Lit.int .i64 (zs.getD j 0)).wf = true := HZ.out _ (getD_mem (by rw [HZL.out]; exact hlt))
      obtain ⟨z, hzz⟩ : ∃ z, zs.getD j 0 = z := ⟨_, rfl⟩
      rw [hzz] at k0 hwf
      have HWF := Lib.hid hwf
      clear hcell hzz hwf
      have dj : decide (((j : Nat) : Int) < ((N : Nat) : Int)) = true := decide_eq_true (by omega)
      go_upto_if 45 with fail
      go_cut [7] (fun o wx => ∃ (A : Option Addr) (n c : Nat) (F : List Int) (Ao : Option Addr) (m co : Nat) (O : List Int), o = .slice Ao m co ∧ Hid (St w bf s wx A n c F Ao m co O))
      case first =>
        as_aux_lemma =>
          have q0 := HS.out.c0
          have q1 := HS.out.c1
          have y0 := HS.out.z0
          have y1 := HS.out.z1
          have hbfl := HS.out.lt
          have hlo := HS.out.lo
          have hsum := HS.out.sum
          have hOK := Lib.hid (HS.out.ok hs1 (by omega))
          by_cases hz0 : 0 < z
          · have hz9 := hz0
            have dz : decide (0 < z) = true := decide_eq_true hz0
            go_wp2_with fail
            refine (Pick.pick_some z 20 (by decide) HWF.out _).mono ?_
            rintro e w' ⟨r, r0, r1, rfl, rfl⟩
            obtain ⟨k, hk⟩ : ∃ k : Nat, 1 + r = (k : Int) := ⟨(1 + r).toNat, by omega⟩
            have hk1 : 1 ≤ k := by omega
            have hk2 : k ≤ 20 := by omega
            clear r0 r1 k0
            go_wp2_with fail
            have hb0r : Below wr.heap.size wr wr := Below.refl _ _
            by_cases hkn : k ≤ n
            · refine (take_ok s A n c k F _ HS.out.sf hOK.out hk1 hkn (by omega)).mono ?_
              rintro eE W4 ⟨A1, A2, a1, a2, rfl, hA1, hA2, nA1, nA2, hg4⟩
              have X1 := Lib.hid hA1
              have X2 := Lib.hid hA2
              have NX1 := Lib.hid nA1
              have NX2 := Lib.hid nA2
              have S4 := Lib.hid (HS.out.below hg4)
              clear hA1 hA2 nA1 nA2
              have dk : decide ((n : Int) < (k : Int)) = false := decide_eq_false (by omega)
              have es : IntKind.i64.wrap ((s : Int) - (m : Int)) = (n : Int) := by rw [IntKind.wrap_i64]; omega
              have hb4 : Below wr.heap.size wr W4 := (show Below wr.heap.size wr _ by go_grown).trans (hg4.mono (by first | omega | go_size))
              obtain ⟨hc4, hf4⟩ := bcell hg4
              have hs4 := hg4.size
              try simp only [World.size_alloc, World.size_setCell, World.size_drew] at hs4
              have hl4_0_0 : W4.cell? ⟨bf, 0, none⟩ = some (num s) := (hc4 _ _ (by first | omega | go_size)).trans (by first | (with_reducible assumption) | go_cell)
              have hz4_0_0 : W4.frozen? ⟨bf, 0, none⟩ = false := (hf4 _ _ (by first | omega | go_size)).trans (by first | (with_reducible assumption) | (go_simp; done) | (simp [*]; done))
              have hl4_0_1 : W4.cell? ⟨bf, 1, none⟩ = some (.slice A n c) := (hc4 _ _ (by first | omega | go_size)).trans (by first | (with_reducible assumption) | go_cell)
              have hz4_0_1 : W4.frozen? ⟨bf, 1, none⟩ = false := (hf4 _ _ (by first | omega | go_size)).trans (by first | (with_reducible assumption) | (go_simp; done) | (simp [*]; done))
              have hk4_0 : bf < W4.heap.size := by omega
              clear hg4 hc4 hf4
              go_wp2_with fail
              have hgx : Below W4.heap.size W4 (W4.alloc (.cells #[num s, .slice A2 (n - k) a2] 56)) := (Below.refl _ _).alloc (Nat.le_refl _) _
              have G5 := give_ok s A2 A1 (n - k) a2 k a1 (F.drop k) (F.take k) _ (X2.out.on (Nat.le_refl _) hgx) (X1.out.on (Nat.le_refl _) hgx) (ok_drop hOK.out k) (in_take hOK.out k) (nd_rot hOK.out k) (by omega) (by omega)
              rw [show k + (n - k) = n from by omega, List.take_append_drop] at G5
              refine G5.mono ?_
              clear G5
              rintro eE W5 ⟨C5, c5, rfl, hC5, nC5, hg5⟩
              have hgx5 := hgx.trans (hg5.mono hgx.size)
              have C5S := Lib.hid hC5
              have S5 := Lib.hid (S4.out.below hgx5)
              have Y1 := Lib.hid (X1.out.on (Nat.le_refl _) hgx5)
              have Y2 := Lib.hid (X2.out.on (Nat.le_refl _) hgx5)
              clear hC5 nC5 hgx
              have hb5 : Below wr.heap.size wr W5 := (show Below wr.heap.size wr _ by go_grown).trans (hg5.mono (by first | omega | go_size))
              obtain ⟨hc5, hf5⟩ := bcell hg5
              have hs5 := hg5.size
              try simp only [World.size_alloc, World.size_setCell, World.size_drew] at hs5
              have hl5_0_0 : W5.cell? ⟨bf, 0, none⟩ = some (num s) := (hc5 _ _ (by first | omega | go_size)).trans (by first | (with_reducible assumption) | go_cell)
              have hz5_0_0 : W5.frozen? ⟨bf, 0, none⟩ = false := (hf5 _ _ (by first | omega | go_size)).trans (by first | (with_reducible assumption) | (go_simp; done) | (simp [*]; done))
              have hl5_0_1 : W5.cell? ⟨bf, 1, none⟩ = some (.slice A n c) := (hc5 _ _ (by first | omega | go_size)).trans (by first | (with_reducible assumption) | go_cell)
              have hz5_0_1 : W5.frozen? ⟨bf, 1, none⟩ = false := (hf5 _ _ (by first | omega | go_size)).trans (by first | (with_reducible assumption) | (go_simp; done) | (simp [*]; done))
              have hk5_0 : bf < W5.heap.size := by omega
              have hl5_1_0 : W5.cell? ⟨W4.heap.size, 0, none⟩ = some (num s) := (hc5 _ _ (by first | omega | go_size)).trans (by first | (with_reducible assumption) | go_cell)
              have hz5_1_0 : W5.frozen? ⟨W4.heap.size, 0, none⟩ = false := (hf5 _ _ (by first | omega | go_size)).trans (by first | (with_reducible assumption) | (go_simp; done) | (simp [*]; done))
              have hl5_1_1 : W5.cell? ⟨W4.heap.size, 1, none⟩ = some (.slice A2 (n - k) a2) := (hc5 _ _ (by first | omega | go_size)).trans (by first | (with_reducible assumption) | go_cell)
              have hz5_1_1 : W5.frozen? ⟨W4.heap.size, 1, none⟩ = false := (hf5 _ _ (by first | omega | go_size)).trans (by first | (with_reducible assumption) | (go_simp; done) | (simp [*]; done))
              have hk5_1 : W4.heap.size < W5.heap.size := by omega
              clear hg5 hc5 hf5
              clear hgx5
              go_wp2_with fail
              have hgb : Below W5.heap.size W5 (W5.alloc (.cells #[num s, .slice C5 n c5] 56)) := (Below.refl _ _).alloc (Nat.le_refl _) _
              refine (same_is s s C5 A n n c5 c F F true _ (C5S.out.on (Nat.le_refl _) hgb) ((S5.out.below hgb).sf) (by simp)).mono ?_
              rintro eE W6 ⟨rfl, hg6⟩
              have hgb6 := hgb.trans (hg6.mono hgb.size)
              have S6 := Lib.hid (S5.out.below hgb6)
              have Z1 := Lib.hid (Y1.out.on (Nat.le_refl _) hgb6)
              have Z2 := Lib.hid (Y2.out.on (Nat.le_refl _) hgb6)
              have bk := bne_self_eq_false (k : Int)
              clear hgb
              have hb6 : Below wr.heap.size wr W6 := (show Below wr.heap.size wr _ by go_grown).trans (hg6.mono (by first | omega | go_size))
              obtain ⟨hc6, hf6⟩ := bcell hg6
              have hs6 := hg6.size
              try simp only [World.size_alloc, World.size_setCell, World.size_drew] at hs6
              have hl6_0_0 : W6.cell? ⟨bf, 0, none⟩ = some (num s) := (hc6 _ _ (by first | omega | go_size)).trans (by first | (with_reducible assumption) | go_cell)
              have hz6_0_0 : W6.frozen? ⟨bf, 0, none⟩ = false := (hf6 _ _ (by first | omega | go_size)).trans (by first | (with_reducible assumption) | (go_simp; done) | (simp [*]; done))
              have hl6_0_1 : W6.cell? ⟨bf, 1, none⟩ = some (.slice A n c) := (hc6 _ _ (by first | omega | go_size)).trans (by first | (with_reducible assumption) | go_cell)
              have hz6_0_1 : W6.frozen? ⟨bf, 1, none⟩ = false := (hf6 _ _ (by first | omega | go_size)).trans (by first | (with_reducible assumption) | (go_simp; done) | (simp [*]; done))
              have hk6_0 : bf < W6.heap.size := by omega
              have hl6_1_0 : W6.cell? ⟨W4.heap.size, 0, none⟩ = some (num s) := (hc6 _ _ (by first | omega | go_size)).trans (by first | (with_reducible assumption) | go_cell)
              have hz6_1_0 : W6.frozen? ⟨W4.heap.size, 0, none⟩ = false := (hf6 _ _ (by first | omega | go_size)).trans (by first | (with_reducible assumption) | (go_simp; done) | (simp [*]; done))
              have hl6_1_1 : W6.cell? ⟨W4.heap.size, 1, none⟩ = some (.slice A2 (n - k) a2) := (hc6 _ _ (by first | omega | go_size)).trans (by first | (with_reducible assumption) | go_cell)
              have hz6_1_1 : W6.frozen? ⟨W4.heap.size, 1, none⟩ = false := (hf6 _ _ (by first | omega | go_size)).trans (by first | (with_reducible assumption) | (go_simp; done) | (simp [*]; done))
              have hk6_1 : W4.heap.size < W6.heap.size := by omega
              clear hg6 hc6 hf6
              clear hgb6
              go_wp2_with fail
              have HU := Lib.hid (show ∀ U, W6.grownBy U (some bf) → Out U 3 Ao m co O ∧ Sl U U.heap.size A1 k a1 (F.take k) ∧ Sl U U.heap.size A2 (n - k) a2 (F.drop k) from fun U hU =>
                ⟨S6.out.so.kept hU (fun g e ad e2 => by injection e with e; subst e; exact (HS.out.no ad e2).2.1), kept Z1.out hU (fun g e => by injection e with e; subst e; exact NX1.out.far hbfl), kept Z2.out hU (fun g e => by injection e with e; subst e; exact NX2.out.far hbfl)⟩)
              have hbw6 : Below w.heap.size w W6 := S6.out.bel
              obtain ⟨i0, hi, hz0', hz1', hz2'⟩ := i64info
              have I0 := Lib.hid hi
              have I1 := Lib.hid hz0'
              have I2 := Lib.hid hz1'
              have I3 := Lib.hid hz2'
              have hbn1 : ¬ W4.heap.size = bf := by omega
              have hbn2 : ¬ bf = W4.heap.size := by omega
              clear hi hz0' hz1' hz2'
              go_region_law ((refine step_append_out rfl (.tmp 99) (.tmp 100) 54 rfl 3 i0 (.int .i64 0) 8 Try.underlying54 I0.out I1.out I2.out I3.out rfl Ao m co O (by simp [Act.eval, Act.put]) (HU.out _ (by first | exact only_drew (World.grownBy.refl _ _) | exact only_drew (FrOut.stored _ _ _ _) | exact World.grownBy.refl _ _ | exact FrOut.stored _ _ _ _)).1 A1 k a1 (F.take k) (by simp [Act.eval, Act.put]) (HU.out _ (by first | exact only_drew (World.grownBy.refl _ _) | exact only_drew (FrOut.stored _ _ _ _) | exact World.grownBy.refl _ _ | exact FrOut.stored _ _ _ _)).2.1 hk1 (by unfold maxLen; omega) (by omega) ?_; intro Cn cn Wn hOn hnew hgrow; obtain ⟨row, hgr, hrow⟩ := hgrow; have hsn := hgr.size; (try simp only [World.size_drew, World.size_setCell] at hsn); have hrw : ∀ g, row = some g → w.heap.size ≤ g ∧ g ≠ bf ∧ g < wr.heap.size := (fun g e => by obtain ⟨b, e1, e2⟩ := hrow g e; subst e2; exact ⟨(HS.out.no b e1).1, (HS.out.no b e1).2.1, (HS.out.no b e1).2.2.1⟩); have p2 : Wn.cell? ⟨W4.heap.size, 0, none⟩ = some (num s) := (World.cell?_of_block (hgr.block (W4.heap.size) (by first | omega | go_size) (fun e => by have := hrw _ e.symm; omega))).trans (by first | (with_reducible assumption) | go_cell); have p3 : Wn.cell? ⟨W4.heap.size, 1, none⟩ = some (.slice A2 (n - k) a2) := (World.cell?_of_block (hgr.block (W4.heap.size) (by first | omega | go_size) (fun e => by have := hrw _ e.symm; omega))).trans (by first | (with_reducible assumption) | go_cell); (first | (have p0 : Wn.cell? ⟨bf, 0, none⟩ = some (num s) := (World.cell?_of_block (hgr.block (bf) (by first | omega | go_size) (fun e => by have := hrw _ e.symm; omega))).trans (by first | (with_reducible assumption) | go_cell); have p1 : Wn.cell? ⟨bf, 1, none⟩ = some (.slice A n c) := (World.cell?_of_block (hgr.block (bf) (by first | omega | go_size) (fun e => by have := hrw _ e.symm; omega))).trans (by first | (with_reducible assumption) | go_cell)) | (have p0 : Wn.cell? ⟨bf, 0, none⟩ = some (num s) := (World.cell?_of_block (hgr.block (bf) (by first | omega | go_size) (fun e => by have := hrw _ e.symm; omega))).trans (by first | (with_reducible assumption) | go_cell); have p1 : Wn.cell? ⟨bf, 1, none⟩ = some (.slice A2 (n - k) a2) := (World.cell?_of_block (hgr.block (bf) (by first | omega | go_size) (fun e => by have := hrw _ e.symm; omega))).trans (by first | (with_reducible assumption) | go_cell))); have o0 : Wn.frozen? ⟨bf, 0, none⟩ = false := (World.frozen?_of_block (hgr.block (bf) (by first | omega | go_size) (fun e => by have := hrw _ e.symm; omega))).trans (by first | (with_reducible assumption) | (go_simp; done) | (simp [*]; done)); have o1 : Wn.frozen? ⟨bf, 1, none⟩ = false := (World.frozen?_of_block (hgr.block (bf) (by first | omega | go_size) (fun e => by have := hrw _ e.symm; omega))).trans (by first | (with_reducible assumption) | (go_simp; done) | (simp [*]; done)); have hBn : Below w.heap.size w Wn := (show Below w.heap.size w _ by go_grown).grown hgr (by first | omega | go_size) (fun g e => (hrw g e).1); have hSn := kept (HU.out _ (by first | exact only_drew (World.grownBy.refl _ _) | exact only_drew (FrOut.stored _ _ _ _) | exact World.grownBy.refl _ _ | exact FrOut.stored _ _ _ _)).2.2 hgr (fun g e => NX2.out.far (hrw g e).2.2)))
              all_goals (go_wp2_with fail)
              all_goals go_meet
              all_goals refine ⟨A2, n - k, a2, F.drop k, Cn, m + k, cn, O ++ F.take k, rfl, Lib.hid (HS.out.took (M := W6.heap.size) hk1 hkn (by go_grown) (by first | omega | go_size) (by first | (with_reducible assumption) | go_cell) (by first | (with_reducible assumption) | go_cell) (by first | (with_reducible assumption) | (go_simp; done) | (simp [*]; done)) (by first | (with_reducible assumption) | (go_simp; done) | (simp [*]; done)) ?_ NX2.out ?_ (fun b e => (hnew b e).imp_right fun h => (by first | exact h | simpa using h)) (fun ad e h0 => by
                by_cases hh : ad.block < W6.heap.size
                · exact hh
                · exact absurd rfl (Z2.out.far (b := ad.block) (by omega) ad e h0)) (by omega))⟩
              all_goals first
                | exact kept hSn (FrOut.stored _ _ _ _) (fun g e => by injection e with e; subst e; exact NX2.out.far hbfl)
                | exact hOn.kept (FrOut.stored _ _ _ _) (fun g e ad e2 => by
                    injection e with e
                    subst e
                    rcases hnew ad e2 with h | h
                    · exact (HS.out.no ad h).2.1
                    · have h' : W6.heap.size ≤ ad.block := h
                      omega)
            · refine (take_many s A n c k F _ HS.out.sf hOK.out hk1 (by omega)).mono ?_
              rintro eE W4 ⟨rfl, hg4⟩
              have S4 := Lib.hid (HS.out.below hg4)
              have dk : decide ((n : Int) < (k : Int)) = true := decide_eq_true (by omega)
              have es : IntKind.i64.wrap ((s : Int) - (m : Int)) = (n : Int) := by rw [IntKind.wrap_i64]; omega
              have hb4 : Below wr.heap.size wr W4 := (show Below wr.heap.size wr _ by go_grown).trans (hg4.mono (by first | omega | go_size))
              obtain ⟨hc4, hf4⟩ := bcell hg4
              have hs4 := hg4.size
              try simp only [World.size_alloc, World.size_setCell, World.size_drew] at hs4
              have hl4_0_0 : W4.cell? ⟨bf, 0, none⟩ = some (num s) := (hc4 _ _ (by first | omega | go_size)).trans (by first | (with_reducible assumption) | go_cell)
              have hz4_0_0 : W4.frozen? ⟨bf, 0, none⟩ = false := (hf4 _ _ (by first | omega | go_size)).trans (by first | (with_reducible assumption) | (go_simp; done) | (simp [*]; done))
              have hl4_0_1 : W4.cell? ⟨bf, 1, none⟩ = some (.slice A n c) := (hc4 _ _ (by first | omega | go_size)).trans (by first | (with_reducible assumption) | go_cell)
              have hz4_0_1 : W4.frozen? ⟨bf, 1, none⟩ = false := (hf4 _ _ (by first | omega | go_size)).trans (by first | (with_reducible assumption) | (go_simp; done) | (simp [*]; done))
              have hk4_0 : bf < W4.heap.size := by omega
              clear hg4 hc4 hf4
              go_wp2_with fail
              go_roundw
              case rel => exact ⟨j + 1, A, n, c, F, Ao, m, co, O, by omega, by go_num, rfl, Lib.hid (S4.out.below ((Below.refl _ _).alloc (Nat.le_refl _) _))⟩
              case measure => simp [intOf]; omega
          · have dz : decide (0 < z) = false := decide_eq_false hz0
            go_wp2_with fail
            refine (Pick.pick_some z 20 (by decide) HWF.out _).mono ?_
            rintro e w' ⟨r, r0, r1, rfl, rfl⟩
            obtain ⟨q, hq⟩ : ∃ q : Nat, (if (m : Int) < r then (m : Int) else r) = (q : Int) := ⟨(if (m : Int) < r then (m : Int) else r).toNat, by split <;> omega⟩
            have hq2 : q ≤ m := by split at hq <;> omega
            have hq3 : q ≤ 20 := by split at hq <;> omega
            clear k0
            by_cases hq0 : q = 0
            · subst hq0
              go_wp2_with fail
              go_roundw
              case rel => exact ⟨j + 1, A, n, c, F, Ao, m, co, O, by omega, by go_num, rfl, HS⟩
              case measure => simp [intOf]; omega
            · have e0 : ((q : Int) == 0) = false := by simp; omega
              clear r0 r1
              obtain ⟨ao, rfl, _⟩ := HS.out.so.sl.el (k := 0) (by omega)
              obtain ⟨p, hp⟩ : ∃ p, m - q = p := ⟨_, rfl⟩
              have hp1 : p < m := by omega
              have hco := HS.out.so.sl.le
              have hcm := max63 HS.out.so.sl.max
              have ep : IntKind.i64.wrap ((m : Int) - (q : Int)) = (p : Int) := by rw [IntKind.wrap_i64]; omega
              have hi1 : (0 : Int) ≤ (p : Int) := by omega
              have hi2 : (p : Int) ≤ (m : Int) := by omega
              have hi3 : (p : Int) ≤ (co : Int) := by omega
              have hi4 : p ≤ co := by omega
              have hi5 : p ≤ m := by omega
              have hcp : ¬ co = p := by omega
              have HU := Lib.hid (show ∀ U, Below wr.heap.size wr U → Sl U U.heap.size A n c F ∧ Sl U U.heap.size (some (ao.add p)) (m - p) (co - p) (O.drop p) from fun U hU =>
                ⟨HS.out.sf.on (Nat.le_refl _) hU, by
                  have := (HS.out.so.sl.on (Nat.le_refl _) hU).drop (m := p) hi5
                  rw [if_neg hcp] at this
                  exact this⟩)
              have HIN := Lib.hid (show inB s (O.drop p) = true from inB_iff.2 fun x hx => HS.out.ins x (by simp [List.mem_of_mem_drop hx]))
              have HND := Lib.hid (show (F ++ O.drop p).Nodup from HS.out.nd.sublist ((List.Sublist.refl F).append (List.drop_sublist p O)))
              go_wp2_with fail
              go_cut [16, 17] (fun x e wx => ∃ (bx : Nat) (C : Option Addr) (d : Nat), x = .pointer (some ⟨bx, 0, none⟩) ∧ e = num 0 ∧ wr.heap.size ≤ bx ∧ bx < wx.heap.size ∧ wx.cell? ⟨bx, 0, none⟩ = some (num s) ∧ wx.cell? ⟨bx, 1, none⟩ = some (.slice C (m - p + n) d) ∧ Hid (Sl wx wx.heap.size C (m - p + n) d (O.drop p ++ F)) ∧ Hid (New wr.heap.size C (m - p + n)) ∧ Below wr.heap.size wr wx)
              case first =>
                as_aux_lemma =>
                  have hb0r : Below wr.heap.size wr wr := Below.refl _ _
                  have hbn1 : ¬ wr.heap.size = bf := by omega
                  have hbn2 : ¬ bf = wr.heap.size := by omega
                  go_region_held3 (fun w' => w'.cell? ⟨bf, 0, none⟩ = some (num s) ∧ w'.cell? ⟨bf, 1, none⟩ = some (.slice A n c))
                    (first | exact ⟨e10, e11⟩ | go_keep)
                    (first
                      | (go_at_call 34; (with_reducible refine (give_ok s A (some (ao.add p)) n c (m - p) (co - p) F (O.drop p) wr.drew (HU.out _ (by go_grown)).1 (HU.out _ (by go_grown)).2 hOK.out HIN.out HND.out (by omega) (by omega)).mono ?_); rintro eE X1 ⟨C1, d1, rfl, hS1, hN1, hg1⟩; have zz1 := hg1.size; (try simp only [World.size_alloc, World.size_drew] at zz1); have hB1 : Below wr.heap.size wr X1 := (show Below wr.heap.size wr _ by go_grown).trans (hg1.mono (by first | omega | go_size)); have e10 : X1.cell? ⟨bf, 0, none⟩ = some (num s) := (hg1.cell (p := ⟨bf, 0, none⟩) (by first | omega | go_size)).trans (by first | (with_reducible assumption) | go_cell); have e11 : X1.cell? ⟨bf, 1, none⟩ = some (.slice A n c) := (hg1.cell (p := ⟨bf, 1, none⟩) (by first | omega | go_size)).trans (by first | (with_reducible assumption) | go_cell))
                      | (go_at_call 34; (with_reducible refine (give_ok s A (some (ao.add p)) n c (m - p) (co - p) F (O.drop p) _ (HU.out _ (by go_grown)).1 (HU.out _ (by go_grown)).2 hOK.out HIN.out HND.out (by omega) (by omega)).mono ?_); rintro eE X1 ⟨C1, d1, rfl, hS1, hN1, hg1⟩; have zz1 := hg1.size; (try simp only [World.size_alloc, World.size_drew] at zz1); have hB1 : Below wr.heap.size wr X1 := (show Below wr.heap.size wr _ by go_grown).trans (hg1.mono (by first | omega | go_size)); have e10 : X1.cell? ⟨bf, 0, none⟩ = some (num s) := (hg1.cell (p := ⟨bf, 0, none⟩) (by first | omega | go_size)).trans (by first | (with_reducible assumption) | go_cell); have e11 : X1.cell? ⟨bf, 1, none⟩ = some (.slice A n c) := (hg1.cell (p := ⟨bf, 1, none⟩) (by first | omega | go_size)).trans (by first | (with_reducible assumption) | go_cell); have e12 : X1.cell? ⟨wr.heap.size, 0, none⟩ = some (num 0) := (hg1.cell (p := ⟨wr.heap.size, 0, none⟩) (by first | omega | go_size)).trans (by first | (with_reducible assumption) | go_cell); have e13 : X1.cell? ⟨wr.heap.size, 1, none⟩ = some (.slice none 0 0) := (hg1.cell (p := ⟨wr.heap.size, 1, none⟩) (by first | omega | go_size)).trans (by first | (with_reducible assumption) | go_cell); have f12 : X1.frozen? ⟨wr.heap.size, 0, none⟩ = false := (hg1.frozen (p := ⟨wr.heap.size, 0, none⟩) (by first | omega | go_size)).trans (by first | (with_reducible assumption) | (go_simp; done) | (simp [*]; done)); have f13 : X1.frozen? ⟨wr.heap.size, 1, none⟩ = false := (hg1.frozen (p := ⟨wr.heap.size, 1, none⟩) (by first | omega | go_size)).trans (by first | (with_reducible assumption) | (go_simp; done) | (simp [*]; done))))
                  all_goals (go_wp2_with fail)
                  all_goals go_meet
                  · exact ⟨X1.heap.size, C1, d1, rfl, rfl, by omega, by simp, by go_cell, by go_cell, Lib.hid (hS1.on (Nat.le_refl _) ((Below.refl _ _).alloc (Nat.le_refl _) _)), Lib.hid (hN1.mono (Nat.le_refl _)), by go_grown⟩
                  · exact ⟨wr.heap.size, C1, d1, rfl, rfl, Nat.le_refl _, by go_size, by go_cell, by go_cell, Lib.hid (kept hS1 (FrOut.stored _ _ _ _) (fun g e => by injection e with e; subst e; exact hN1.far (by simp))), Lib.hid (hN1.mono (by simp)), by go_grown⟩
              case rest =>
                obtain ⟨bx, C1, d1, rfl, rfl, hbx, hbx2, x0, x1, XS, XN, hbc⟩ := hcut
                have q0' := (hbc.cell (p := ⟨bf, 0, none⟩) hbfl).trans q0
                have q1' := (hbc.cell (p := ⟨bf, 1, none⟩) hbfl).trans q1
                have y0' := (hbc.frozen (p := ⟨bf, 0, none⟩) hbfl).trans y0
                have y1' := (hbc.frozen (p := ⟨bf, 1, none⟩) hbfl).trans y1
                have hbn1 : ¬ bx = bf := by omega
                have hbn2 : ¬ bf = bx := by omega
                have hszc := hbc.size
                have hbwc : Below w.heap.size w wc := hbel.trans (hbc.mono hbsz)
                have hSO := Lib.hid (HS.out.so.sl.on (Nat.le_refl _) hbc)
                have pp1 : (p : Int) ≤ (p : Int) := Int.le_refl _
                have pp2 : p ≤ p := Nat.le_refl _
                go_wp2_with fail
                clear q0 q1 y0 y1
                go_region
                all_goals (go_wp2_with fail)
                all_goals go_meet
                all_goals exact ⟨C1, m - p + n, d1, O.drop p ++ F, some ao, p, p, O.take p, rfl, Lib.hid (HS.out.gave hi5 (by go_grown) (by first | omega | go_size) (by first | (with_reducible assumption) | go_cell) (by first | (with_reducible assumption) | go_cell) (by first | (with_reducible assumption) | (go_simp; done) | (simp [*]; done)) (by first | (with_reducible assumption) | (go_simp; done) | (simp [*]; done)) (kept XS.out (only_drew (FrOut.stored _ _ _ _)) (fun g e => by injection e with e; subst e; exact XN.out.far hbfl)) XN.out (((kept hSO.out (only_drew (FrOut.stored _ _ _ _)) (fun g e => by injection e with e; subst e; exact fun a e2 _ => (HS.out.no a e2).2.1)).take hi5).clip (Nat.le_refl _) hi4) (by first | omega | go_size))⟩
      case rest =>
        obtain ⟨A', n', c', F', Ao', m', co', O', rfl, HS'⟩ := hcut
        have hOK := Lib.hid (HS'.out.ok hs1 (by omega))
        have hsum := HS'.out.sum
        have hbfl := HS'.out.lt
        have hmm := @run_makeMap Try.prog
        have hm0 : SetAt Try.prog 3 4 .i64 (wc.alloc (.map #[] 0)) wc.heap.size [] (.map []) := ⟨World.ownsMap_made wc Try.prog 3 (plainElem Try.prog 4), Maps.isMap_empty, fun x => rfl⟩
        have hb0c : Below wc.heap.size wc (wc.alloc (.map #[] 0)) := (Below.refl _ _).alloc (Nat.le_refl _) _
        have hs0c : wc.heap.size < (wc.alloc (.map #[] 0)).heap.size := by simp
        clear k0 hbel hbsz
        go_wp2_with fail
        clear hmm
        obtain ⟨mb, hmb⟩ : ∃ mb, wc.heap.size = mb := ⟨_, rfl⟩
        have HMB := Lib.hid hmb
        rw [hmb] at hm0 hs0c
        generalize wc.alloc (.map #[] 0) = W5 at hm0 hb0c hs0c ⊢
        rw [hmb] at ⊢
        have HM0 := Lib.hid hm0
        have hmbe : mb ≤ wc.heap.size := by omega
        have hmbe' : wc.heap.size ≤ mb := by omega
        clear hm0 hmb
        go_loopw [19] (fun i w2 => ∃ (k : Nat) (D : DataW Unit), k ≤ m' ∧ i = num k ∧ Hid (SetAt Try.prog 3 4 .i64 w2 mb (O'.take k) D) ∧ Below wc.heap.size wc w2 ∧ mb < w2.heap.size) (fun i w2 => m' - (intOf i).toNat)
        case atStart => exact ⟨0, _, by omega, rfl, Lib.hid (by rw [List.take_zero]; exact HM0.out), hb0c, hs0c⟩
        case round =>
          obtain ⟨k, D, hk, rfl, HM, hbk, hmbl⟩ := hrel
          have hszk := hbk.size
          clear HM0 hb0c hs0c
          by_cases hkm : k < m'
          · obtain ⟨ao, rfl, hao, hcell⟩ := HS'.out.so.sl.el hkm
            obtain ⟨x, hx⟩ : ∃ x, O'.getD k 0 = x := ⟨_, rfl⟩
            rw [hx] at hcell
            have hxm : x ∈ O' := by rw [← hx]; exact getD_mem (by rw [HS'.out.so.sl.len]; exact hkm)
            obtain ⟨x0, x1⟩ := HS'.out.ins x (by simp [hxm])
            have HT := Lib.hid (show O'.take (k + 1) = O'.take k ++ [x] from by rw [take_succ (by rw [HS'.out.so.sl.len]; exact hkm), hx])
            have HNI := Lib.hid (show decide (x ∈ F') = false from decide_eq_false fun h => (List.nodup_append.1 HS'.out.nd).2.2 x h x hxm rfl)
            have hnt : ¬ x ∈ O'.take k := fun h => by
              have h2 := (List.nodup_append.1 HS'.out.nd).2.1
              rw [← List.take_append_drop (k + 1) O', HT.out, List.append_assoc, List.nodup_append] at h2
              exact h2.2.2 x h x (by simp) rfl
            have HY := Lib.hid (show decide (x ∈ O'.take k) = false from decide_eq_false hnt)
            have hxw : (Lit.int .i64 x).wf = true := WalkArith.wf_i64 (by omega)
            have HXW := Lib.hid hxw
            have g1 : decide (x < 0) = false := decide_eq_false (by omega)
            have g2 : decide ((s : Int) ≤ x) = false := decide_eq_false (by omega)
            have dk : decide ((k : Int) < (m' : Int)) = true := decide_eq_true (by omega)
            have HSl := Lib.hid (show ∀ W, Below wr.heap.size wr W → Sl W W.heap.size A' n' c' F' from fun W hW => HS'.out.sf.on (Nat.le_refl _) (hbk.trans (hW.mono hszk)))
            have HC0 := Lib.hid (show ∀ W, Below wr.heap.size wr W → W.cell? (ao.add k) = some (num x) from fun W hW => ((hbk.trans (hW.mono hszk)).cell (p := ao.add k) (by rw [block_of_add]; exact hao)).trans hcell)
            have Hlook := Lib.hid (show ∀ W, Below wr.heap.size wr W → (Instr.lookup 67 (.map (some mb)) (.int .i64 x) false).run Try.prog W = .ok (.bool false) W from fun W hW =>
              (HM.out.below hW).lookup Try.underlying67 Try.underlying3 Try.underlying4 (FreeOnce.zeroB _) hxw HY.out)
            have q0' := (hbk.cell (p := ⟨bf, 0, none⟩) hbfl).trans HS'.out.c0
            have q1' := (hbk.cell (p := ⟨bf, 1, none⟩) hbfl).trans HS'.out.c1
            have y0' := (hbk.frozen (p := ⟨bf, 0, none⟩) hbfl).trans HS'.out.z0
            have y1' := (hbk.frozen (p := ⟨bf, 1, none⟩) hbfl).trans HS'.out.z1
            have hb0k : Below wr.heap.size wr wr := Below.refl _ _
            clear hcell hxm hnt hxw hx x0 x1
            go_wp2_with fail
            refine Lib.wp_region_class (Lib.Held wr _ [(bf, 0, (num s : Value)), (bf, 1, (.slice A' n' c' : Value))]) (by kernel_rfl) (by kernel_rfl) ⟨by go_grown, Below.refl _ _, ⟨by first | omega | go_size, by first | go_cell | (simp [*]; done), by first | (with_reducible assumption) | (go_simp; done) | (simp [*]; done)⟩, ⟨by first | omega | go_size, by first | go_cell | (simp [*]; done), by first | (with_reducible assumption) | (go_simp; done) | (simp [*]; done)⟩, trivial⟩ ?_
            repeat (first | go_big_quiet_step ((intro hq; first | rfl | (go_at_call 37; exact Lib.Held.call hq (is_ok s x A' n' c' F' false _ (HSl.out _ hq.1) hOK.out HNI.out)) | (have hl := Hlook.out _ hq.1; rw [hl]; go_simp; rfl) | (have hc := HC0.out _ hq.1; go_simp; rfl) | (have hq' := hq; obtain ⟨hbq, heq, ⟨hkq_0, hlq_0, hzq_0⟩, ⟨hkq_1, hlq_1, hzq_1⟩, _⟩ := hq'; go_simp; rfl))) | quiet_step ((intro hq; first | rfl | (go_at_call 37; exact Lib.Held.call hq (is_ok s x A' n' c' F' false _ (HSl.out _ hq.1) hOK.out HNI.out)) | (have hl := Hlook.out _ hq.1; rw [hl]; go_simp; rfl) | (have hc := HC0.out _ hq.1; go_simp; rfl) | (have hq' := hq; obtain ⟨hbq, heq, ⟨hkq_0, hlq_0, hzq_0⟩, ⟨hkq_1, hlq_1, hzq_1⟩, _⟩ := hq'; go_simp; rfl))))
            refine wpQuiet_nil ?_
            intro W6 hq6
            obtain ⟨hb6, he6, ⟨hk6_0, hl6_0, hz6_0⟩, ⟨hk6_1, hl6_1, hz6_1⟩, _⟩ := hq6
            have hs6 := he6.size
            try simp only [World.size_alloc, World.size_setCell, World.size_drew] at hs6
            have c6 := HC0.out _ hb6
            have hlk : (O'.take k).length = k := by rw [List.length_take, HS'.out.so.sl.len]; omega
            obtain ⟨vis, hvis⟩ : ∃ vis, O'.take k = vis := ⟨_, rfl⟩
            have HM6 := Lib.hid (show SetAt Try.prog 3 4 .i64 W6 mb vis D from hvis ▸ (HM.out.below hb6))
            have HT6 := Lib.hid (show O'.take (k + 1) = vis ++ [x] from hvis ▸ HT.out)
            rw [hvis] at hlk
            have hkx : vis.length < maxLen := by rw [hlk]; unfold maxLen; omega
            clear hvis
            clear hlk
            go_wp2_with (at_mapUpdate; refine wpList_mapUpdate_own _ rfl _ _ _ 67 rfl 3 4 (Maps.int_keyed Try.underlying3) Try.underlying67 _ mb vis.length D rfl HM6.out.own hkx _ _ _ rfl rfl (Maps.keyOf_int_mk Try.underlying3 HXW.out) _ [] (plainElem_bool Try.underlying4 true) ?_)
            intro W7 hown7 hg7
            have hD7 := HM6.out.put hown7
            rw [← HT6.out] at hD7
            have hb7 : Below wc.heap.size wc W7 := (hbk.trans (hb6.mono hszk)).grown hg7 (by first | omega | go_size) (fun b e => by cases e; exact hmbe')
            have hs7 := hg7.size
            have H7 := Lib.hid (And.intro hD7 hb7)
            clear hown7 hg7 hD7 hb7 c6
            go_wp2_with fail
            go_roundw
            case rel => exact ⟨k + 1, _, by omega, by go_num, Lib.hid H7.out.1, H7.out.2, by omega⟩
            case measure => simp [intOf]; omega
          · obtain rfl : k = m' := by omega
            have dk : decide ((k : Int) < (k : Int)) = false := decide_eq_false (by omega)
            have es : IntKind.i64.wrap ((s : Int) - (k : Int)) = (n' : Int) := by rw [IntKind.wrap_i64]; omega
            have S8 := Lib.hid (HS'.out.below hbk)
            have q0' := S8.out.c0
            have q1' := S8.out.c1
            have y0' := S8.out.z0
            have y1' := S8.out.z1
            have bn := bne_self_eq_false (n' : Int)
            have hb0k : Below wr.heap.size wr wr := Below.refl _ _
            have hbl8 := S8.out.lt
            go_wp2_with fail
            refine (count_ok s A' n' c' F' _ S8.out.sf hOK.out).mono ?_
            rintro eE W9 ⟨rfl, hg9⟩
            have S9 := Lib.hid (S8.out.below hg9)
            have hb9 : Below wr.heap.size wr W9 := (show Below wr.heap.size wr _ by go_grown).trans (hg9.mono (by first | omega | go_size))
            obtain ⟨hc9, hf9⟩ := bcell hg9
            have hs9 := hg9.size
            try simp only [World.size_alloc, World.size_setCell, World.size_drew] at hs9
            have hl9_0_0 : W9.cell? ⟨bf, 0, none⟩ = some (num s) := (hc9 _ _ (by first | omega | go_size)).trans (by first | (with_reducible assumption) | go_cell)
            have hz9_0_0 : W9.frozen? ⟨bf, 0, none⟩ = false := (hf9 _ _ (by first | omega | go_size)).trans (by first | (with_reducible assumption) | (go_simp; done) | (simp [*]; done))
            have hl9_0_1 : W9.cell? ⟨bf, 1, none⟩ = some (.slice A' n' c') := (hc9 _ _ (by first | omega | go_size)).trans (by first | (with_reducible assumption) | go_cell)
            have hz9_0_1 : W9.frozen? ⟨bf, 1, none⟩ = false := (hf9 _ _ (by first | omega | go_size)).trans (by first | (with_reducible assumption) | (go_simp; done) | (simp [*]; done))
            have hk9_0 : bf < W9.heap.size := by omega
            clear hg9 hc9 hf9
            go_wp2_with fail
            refine (check_ok s A' n' c' F' _ S9.out.sf hOK.out).mono ?_
            rintro eE W10 ⟨rfl, hg10⟩
            have S10 := Lib.hid (S9.out.below hg10)
            have hb10 : Below wr.heap.size wr W10 := (show Below wr.heap.size wr _ by go_grown).trans (hg10.mono (by first | omega | go_size))
            obtain ⟨hc10, hf10⟩ := bcell hg10
            have hs10 := hg10.size
            try simp only [World.size_alloc, World.size_setCell, World.size_drew] at hs10
            have hl10_0_0 : W10.cell? ⟨bf, 0, none⟩ = some (num s) := (hc10 _ _ (by first | omega | go_size)).trans (by first | (with_reducible assumption) | go_cell)
            have hz10_0_0 : W10.frozen? ⟨bf, 0, none⟩ = false := (hf10 _ _ (by first | omega | go_size)).trans (by first | (with_reducible assumption) | (go_simp; done) | (simp [*]; done))
            have hl10_0_1 : W10.cell? ⟨bf, 1, none⟩ = some (.slice A' n' c') := (hc10 _ _ (by first | omega | go_size)).trans (by first | (with_reducible assumption) | go_cell)
            have hz10_0_1 : W10.frozen? ⟨bf, 1, none⟩ = false := (hf10 _ _ (by first | omega | go_size)).trans (by first | (with_reducible assumption) | (go_simp; done) | (simp [*]; done))
            have hk10_0 : bf < W10.heap.size := by omega
            clear hg10 hc10 hf10
            go_wp2_with fail
            go_roundw
            case rel => exact ⟨j + 1, A', n', c', F', Ao', k, co', O', by omega, by go_num, rfl, S10⟩
            case measure => simp [intOf]; omega
    · obtain rfl : j = N := by omega
      have dj : decide ((j : Int) < (j : Int)) = false := decide_eq_false (by omega)
      have hbe := HS.out.bel
      go_wp2_with fail
      go_ret
      exact ⟨rfl, hbe⟩

theorem walk (s0 : Int) (v : Value) (zs : List Int) (w : World) (hs : (Lit.int .i64 s0).wf = true) (h : Args.IsInts w .i64 v zs) : Calls Try.prog 5 #[num s0, v] w (Lib.True1 w.heap.size w) := by
  rcases h with ⟨rfl, rfl⟩ | ⟨a, cap, rfl, h1, h2, h3, h4⟩
  · exact walk_ok s0 none 0 0 [] w (by omega) hs rfl (fun z hz => by cases hz) IsRow.none_
  · by_cases hl : 100 < zs.length
    · exact walk_many s0 _ _ _ w hl (by unfold maxLen at h2; omega)
    · exact walk_ok s0 _ _ _ zs w (by omega) hs rfl h4 (fun hn => ⟨a, rfl, (h3 0 hn).2, fun j hj => (h3 j (by omega)).1⟩)

set_option maxRecDepth 100000 in
theorem lifted (os : Os) (started : os.Started) (H : Type) (enc : TypeId × Value → H) :
    ReturnsInHanded {} Try.checked os 5 .any (Rows.freeOnceSpec.pre6 enc Try.prog Try.f5 Rows.freeOnceRow.domain false) (Rows.freeOnceSpec.post enc Try.prog Try.f5 false true false false) := by
  refine Lib.lifted (C := Try.checked) (tb := 4) H enc Lib.own started (by kernel_rfl) Try.func5
    (ChangeSpec.witness6 (enc := enc) (C := Try.checked) false ⟨#[], #[.int .i64 0, .slice none 0 0], []⟩ 8 (by kernel_rfl) (by kernel_rfl) (by kernel_rfl) (by kernel_rfl))
    Lib.laidOut (Lib.readable_of (by kernel_rfl)) rfl Try.underlying4 rfl ?_ ?_
  · intro ds h
    match ds, h with
    | [_, _], _ => exact ⟨rfl, rfl, rfl⟩
  · intro W base args ds p hval hA hfz hlt
    rw [Try.params5] at hval
    have hA' : DataW.TrodAll enc Try.prog W 0 (fun _ => true) true Try.f5.params.toList args.toList ds p := hA
    rw [Try.params5] at hA'
    obtain ⟨v0, vs0, d0, ds0, p0, q0, hargs, rfl, rfl, h0, r0⟩ := trodAll_cons hA'
    obtain ⟨v1, vs1, d1, ds1, p1, q1, rfl, rfl, rfl, h1, r1⟩ := trodAll_cons r0
    obtain ⟨rfl, rfl, rfl⟩ := trodAll_nil r1
    obtain rfl : args = #[v0, v1] := by cases args; simp_all
    obtain ⟨a0, rfl, rfl, rfl, w0⟩ := open_int Try.underlying3 (hval 0 3 v0 rfl rfl) h0
    obtain ⟨zs1, w1⟩ := Args.open_ints Try.underlying54 Try.underlying3 (by kernel_rfl) (hval 1 54 v1 rfl rfl) h1 (fun x hx => hlt x (by simp [hx]))
    exact walk a0 v1 zs1 W w0 w1

theorem over : Rows.freeOnceRow.holds Try.pinned (OpenSpec.ofChange Rows.freeOnceSpec) :=
  OpenClaim.holds_of_wide 5 Try.f5 rfl rfl rfl rfl rfl rfl rfl ⟨rfl, rfl, rfl, rfl, rfl⟩ rfl rfl rfl rfl rfl (by kernel_rfl) Try.func5 (by kernel_rfl)
    (of_decide_eq_true (by kernel_rfl)) (by unfold Func.isWrapper; first | (rw [if_pos (by decide +kernel)]; kernel_rfl) | (rw [if_neg (by decide +kernel)]; exact ⟨rfl, rfl⟩))
    (fun os started H enc _ => lifted os started H enc)

/-- The statement. -/
theorem proved : Rows.FreeOnceSaid :=
  over

end Go.Proofs.Ytkejcdephnkkgaa.FreeOnce
