
/- Memory in regions: New of valid regions, at least one. -/
import Derived.Test.YtmmgcmbniidieaaGmCopyR
import Derived.Lib.AppendZerosOnto
import Derived.Lib.LazyBuf
import Derived.BigFrame
namespace Go.Proofs.Ytmmgcmbniidieaa.GmNew
open Go.RowKit Rw GmFind GmWord GmLoad GmCopy GmCheck GmCopyR
set_option linter.unusedVariables false
set_option linter.unusedSimpArgs false

theorem u8info : ∃ i, Try.prog.info? 5 = some i ∧ i.zero = some (.int .u8 0) ∧ i.size = 1 ∧ i.bytes = 1 := by
  have h : (Try.prog.info? 5).map (fun i => (i.size, i.bytes)) = some (1, 1) := by kernel_rfl
  have h2 : (Try.prog.info? 5).bind (fun i => i.zero) = some (.int .u8 0) := by kernel_rfl
  obtain ⟨i, hi, hs⟩ := Option.map_eq_some_iff.1 h
  rw [hi] at h2
  exact ⟨i, hi, h2, (Prod.mk.inj hs).1, (Prod.mk.inj hs).2⟩
theorem intinfo : ∃ i, Try.prog.info? 3 = some i ∧ i.zero = some (.int .i64 0) ∧ i.size = 1 ∧ i.bytes = 8 := by
  have h : (Try.prog.info? 3).map (fun i => (i.size, i.bytes)) = some (1, 8) := by kernel_rfl
  have h2 : (Try.prog.info? 3).bind (fun i => i.zero) = some (.int .i64 0) := by kernel_rfl
  obtain ⟨i, hi, hs⟩ := Option.map_eq_some_iff.1 h
  rw [hi] at h2
  exact ⟨i, hi, h2, (Prod.mk.inj hs).1, (Prod.mk.inj hs).2⟩
theorem u8zero (w : World) : (zeroValue 5).run Try.prog w = .ok (.int .u8 0) w := by kernel_rfl

theorem zeros_get (n j : Nat) (h : j < n) : (Builtin.zeroCells (Value.int .u8 0).cells n)[j]? = some (.int .u8 0) := by
  have e : (Value.int .u8 0).cells = #[.int .u8 0] := rfl
  rw [e]
  simp [Builtin.zeroCells, h, Nat.mod_one]
theorem zeros_size (n : Nat) : (Builtin.zeroCells (Value.int .u8 0).cells n).size = n := by
  have e : (Value.int .u8 0).cells = #[.int .u8 0] := rfl
  rw [e]
  simp [Builtin.zeroCells]

set_option maxRecDepth 100000 in
set_option maxHeartbeats 2000000 in
theorem grow_nil (n : Nat) (h1 : 1 ≤ n) (h2 : n ≤ 1048576) (w : World) :
    Calls Try.prog 50 #[.slice none 0 0, .int .i64 n] w fun e w' => ∃ C : Nat, n ≤ C ∧ C ≤ maxLen ∧ e = .returned (.slice (some ⟨w.heap.size, 0, none⟩) 0 C) ∧ w'.rowIs w.heap.size 5 C (fun _ => .int .u8 0) ∧ Below w.heap.size w w' := by
  obtain ⟨i0, hi0, hz0, hs0, hby⟩ := u8info
  have hfit : Builtin.nextslicecap (0 + n) 0 * i0.bytes ≤ 281474976710656 := growslice_fits (by omega) (by rw [hby]; omega)
  have hold : (Builtin.firstCells i0.size 0 (.slice none 0 0)).run Try.prog w.drew = .ok #[] w.drew := run_firstCells_none w.drew i0.size 0 0 0
  have hrz := fun ty => Lib.run_append_grow_zeros (P := Try.prog) w 37 3 ty 5 i0 (.int .u8 0) .i64 .i64 Try.underlying37 Try.underlying3 hi0 hz0 none 0 0 [] hold n (by omega) (by omega) (by omega) (by omega) (by rw [hby]; omega) hfit
  obtain ⟨C, hC⟩ : ∃ C, grownCap w (0 + n) 0 5 = C := ⟨_, rfl⟩
  have hC1 : n ≤ C := by have := grownCap_ge w (0 + n) 0 5; omega
  have hC2 : C ≤ maxLen := by have := grownCap_le_maxLen w (0 + n) 0 5 (by unfold maxLen; omega); omega
  have hC3 : (C : Int) ≤ 9223372036854775807 := by unfold maxLen at hC2; omega
  rw [hC] at hrz
  obtain ⟨Z, hZ⟩ : ∃ Z, (([] : List Value).toArray ++ Builtin.zeroCells (Value.int .u8 0).cells n ++ Builtin.zeroCells (Value.int .u8 0).cells (C - (0 + n))) = Z := ⟨_, rfl⟩
  rw [hZ] at hrz
  have hZs : Z.size = C := by rw [← hZ]; simp [zeros_size]; omega
  have hZg : ∀ j, j < C → Z[j]? = some (.int .u8 0) := by
    intro j hj
    rw [← hZ]
    by_cases hjn : j < n
    · rw [Array.getElem?_append_left (by simp [zeros_size]; omega)]
      rw [show ([] : List Value).toArray ++ Builtin.zeroCells (Value.int .u8 0).cells n = Builtin.zeroCells (Value.int .u8 0).cells n from by simp]
      exact zeros_get n j hjn
    · rw [Array.getElem?_append_right (by simp [zeros_size]; omega)]
      exact zeros_get _ _ (by simp [zeros_size]; omega)
  have HR := Lib.hid hrz
  have HZ := Lib.hid (And.intro hZs hZg)
  have HM := Lib.hid hC2
  clear hrz hZ hZs hZg hC hold hfit hC2
  have n0 : decide ((n : Int) < 0) = false := decide_eq_false (by omega)
  go_enter Try.func50, Try.ntmps50
  go_wp2_with (at_builtin; refine Lib.wpList_append_run _ rfl _ _ _ _ rfl _ _ rfl rfl _ _ (HR.out _) ?_)
  all_goals
    go_ret
    have hrow := World.rowIs_alloc w.drew Z 5 (fun _ => .int .u8 0) (fun i hi => HZ.out.2 i (by have := HZ.out.1; omega))
    rw [HZ.out.1] at hrow
    exact ⟨C, hC1, HM.out, rfl, hrow, by go_grown⟩

/-- A memory's own four cells while it is made. -/
def memF (m g1 k : Nat) (A2 : Option Addr) (j c2 : Nat) (B3 : Value) : Nat → Value
  | 0 => .pointer (some ⟨m, 0, none⟩)
  | 1 => .slice (some ⟨g1, 0, none⟩) k k
  | 2 => .slice A2 j c2
  | _ => B3
def starts (r : Rg) (j : Nat) : List Value := (List.range j).map fun i => .int .i64 (sum r i)
theorem starts_succ (r : Rg) (j : Nat) : starts r (j + 1) = starts r j ++ [.int .i64 (sum r j)] := by unfold starts; rw [List.range_succ, List.map_append]; rfl
def stR (r : Rg) : Rg := ⟨r.at_, r.len, sum r⟩

theorem own_slice {w : World} {base : Nat} {e : TypeId} {size n : Nat} {v : Value} {xs : List Value} (h : w.ownsRow base e size v n xs) : ∃ A c, v = .slice A n c := by
  rcases h.2 with ⟨h1, h2⟩ | ⟨g, cap, cur, h1, _⟩
  · exact ⟨_, _, by rw [h1, h2]⟩
  · exact ⟨_, _, h1⟩
theorem own_block {w : World} {base : Nat} {e : TypeId} {size n c : Nat} {A : Option Addr} {xs : List Value} (h : w.ownsRow base e size (.slice A n c) n xs) : ∀ g, (Value.slice A n c).ownBlock = some g → base ≤ g := by
  intro g hg
  rcases h.2 with ⟨h1, h2⟩ | ⟨g', cap, cur, h1, hb, _⟩
  · rw [h1] at hg; cases hg
  · rw [h1] at hg; cases hg; exact hb
/-- A block that is not the row's own is as it was. -/
theorem kept_row {w w' : World} {row : Option Nat} {b : Nat} {t : TypeId} {n : Nat} {f : Nat → Value} (h : w.rowIs b t n f) (g : w.grownBy w' row) (hne : row ≠ some b) : w'.rowIs b t n f := h.of_block (g.block b h.lt (fun e => hne e.symm))

theorem grown_refl (w : World) (row : Option Nat) : w.grownBy w row := ⟨rfl, rfl, rfl, Nat.le_refl _, fun _ _ _ => rfl⟩
theorem grown_setCells (b : Nat) : ∀ (vs : List Value) (o : Nat) (a w : World), a.grownBy w (some b) → a.grownBy (w.setCells b o vs) (some b)
  | [], _, _, _, h => h
  | v :: vs, o, a, w, h => grown_setCells b vs (o + 1) a _ (only_setCell h (.inl rfl) v)
theorem own_ne {w w' : World} {base : Nat} {e : TypeId} {size n c : Nat} {A : Option Addr} {xs : List Value} {row : Option Nat} (h : w.ownsRow base e size (.slice A n c) n xs) (hg : w.grownBy w' row) (hne : ∀ b, row = some b → b < base ∨ w.heap.size ≤ b) : w'.ownsRow base e size (.slice A n c) n xs := by
  refine h.kept hg ?_
  cases ho : (Value.slice A n c).ownBlock with
  | none => exact .inl rfl
  | some g =>
    right
    intro e
    have h1 := own_block h g ho
    have h2 := (h.lt g ho).2
    have := hne g e.symm
    omega

set_option maxRecDepth 100000 in
set_option maxHeartbeats 8000000 in
theorem new_ok (A : Option Addr) (k c : Nat) (r : Rg) (w : World) (hk0 : 0 < k) (hk : k ≤ 16) (hr : Raw r k) (hs : ∀ i, i < k → Step r i) (h : Lst w w.heap.size A k r) :
    Calls Try.prog 9 #[.slice A k c] w fun e w' => ∃ (m g1 b3 c2 n3 c3 : Nat) (A2 : Option Addr), e = .returned (.tuple #[.pointer (some ⟨m, 0, none⟩), .int .i64 0]) ∧ MemAt w' m k g1 A2 (some ⟨b3, 0, none⟩) k c2 n3 c3 (stR r) ∧
      (n3 : Int) = sum r k ∧ n3 ≤ c3 ∧ w'.rowIs b3 5 c3 (fun _ => .int .u8 0) ∧ w.heap.size ≤ m ∧ w.heap.size ≤ g1 ∧ g1 < m ∧ m < b3 ∧ (∀ a, A2 = some a → m < a.block ∧ a.block < b3) ∧ Below w.heap.size w w' := by
  have hb0 : Below w.heap.size w w := Below.refl _ _
  obtain ⟨i1, hi1, hz1, hs1', hby1⟩ := intinfo
  have I1 := Lib.hid hi1
  have I2 := Lib.hid hz1
  have I3 := Lib.hid hs1'
  have I4 := Lib.hid hby1
  have HR := Lib.hid hr
  have HS := Lib.hid hs
  have HL := Lib.hid h
  clear hi1 hz1 hs1' hby1 hr hs h
  go_enter Try.func9, Try.ntmps9
  go_wp2_with fail
  refine (check_ok A k c r _ hk HR.out HS.out HL.out).mono ?_
  rintro eE W1 ⟨rfl, hg1⟩
  have hb1 : Below w.heap.size w W1 := (show Below w.heap.size w _ by go_grown).trans (hg1.mono (by first | omega | go_size))
  obtain ⟨hc1, hf1⟩ := bcell hg1
  have hs1 := hg1.size
  try simp only [World.size_alloc, World.size_setCell, World.size_drew] at hs1
  clear hg1 hc1 hf1
  go_wp2_with fail
  have hL1 : Lst W1 W1.heap.size A k r := (HL.out.below hb1).more hs1
  (with_reducible refine (copied_rg A k c r _ hk0 (by omega) hL1).mono ?_)
  rintro eE W2 ⟨g1, rfl, hg1, hrow1, hg2⟩
  have hb2 : Below w.heap.size w W2 := hb1.trans (hg2.mono hs1)
  have hs2 := hg2.size
  have hlt1 := hrow1.lt
  have H1 := Lib.hid hrow1
  clear hL1 hg2 hrow1
  obtain ⟨m, hm⟩ : ∃ m, W2.heap.size = m := ⟨_, rfl⟩
  have HM := Lib.hid hm
  go_wp2_with fail
  have hmrow : (W2.alloc (.cells #[.pointer (some ⟨m, 0, none⟩), .slice (some ⟨g1, 0, none⟩) k k, .slice none 0 0, .slice none 0 0] 75)).rowIs m 75 4 (memF m g1 k none 0 0 (.slice none 0 0)) := by
    have := World.rowIs_alloc W2 #[.pointer (some ⟨m, 0, none⟩), .slice (some ⟨g1, 0, none⟩) k k, .slice none 0 0, .slice none 0 0] 75 (memF m g1 k none 0 0 (.slice none 0 0)) (fun i hi => by
      match i, hi with
      | 0, _ => rfl
      | 1, _ => rfl
      | 2, _ => rfl
      | 3, _ => rfl)
    rwa [hm] at this
  have HMR := Lib.hid hmrow
  clear hmrow
  go_loopw [6, 24] (fun x y wr => ∃ (j c2 : Nat) (A2 : Option Addr), j ≤ k ∧ x = .int .i64 (sum r j) ∧ y = .int .i64 j ∧ wr.rowIs m 75 4 (memF m g1 k A2 j c2 (.slice none 0 0)) ∧ wr.ownsRow (m + 1) 3 1 (.slice A2 j c2) j (starts r j) ∧ wr.rowIs g1 55 (k * 2) r.cell ∧ m + 1 ≤ wr.heap.size ∧ Below w.heap.size w wr) (fun x y wr => k - (intOf y).toNat)
  case atStart => exact ⟨0, 0, none, by omega, rfl, rfl, HMR.out, ⟨rfl, .inl ⟨rfl, rfl⟩⟩, H1.out.alloc _, by simp [HM.out], hb2.alloc hb2.size _⟩
  case round =>
    obtain ⟨j, c2, A2, hj, rfl, rfl, hmr, hown, hgr, hms, hb⟩ := hrel
    have m0 := hmr.cell (i := 0) (by omega)
    have m1 := hmr.cell (i := 1) (by omega)
    have m2 := hmr.cell (i := 2) (by omega)
    have m3 := hmr.cell (i := 3) (by omega)
    simp only [memF] at m0 m1 m2 m3
    have z2 := hmr.frozen 2
    have z3 := hmr.frozen 3
    have hlm := hmr.lt
    by_cases hlt : j < k
    · obtain ⟨ad, hA, had, hc⟩ := (HL.out.below hb) (by omega)
      have c0 := el0 hc hlt (by decide)
      have c1 := elj hc hlt 1 (by decide) (by decide)
      rw [Rg.cell0] at c0
      rw [Rg.cell1] at c1
      obtain ⟨s1, s2, s3, s4⟩ := HS.out j hlt
      obtain ⟨r1, r2, r3, r4⟩ := HR.out j hlt
      have t1 := sum_lo HR.out j hj
      clear hc s4
      subst hA
      have hsw := hb.size
      have hob := own_block hown
      have hol := hown.lt
      have hown2 := (hown.alloc (.cells #[.int .u64 (r.at_ j), .int .u64 (r.len j)] 55)).alloc (.cells #[.int .i64 (sum r j)] 3)
      have hmr2 := (hmr.alloc (.cells #[.int .u64 (r.at_ j), .int .u64 (r.len j)] 55)).alloc (.cells #[.int .i64 (sum r j)] 3)
      have hgr2 := (hgr.alloc (.cells #[.int .u64 (r.at_ j), .int .u64 (r.len j)] 55)).alloc (.cells #[.int .i64 (sum r j)] 3)
      have hrr : (wr.alloc (.cells #[.int .u64 (r.at_ j), .int .u64 (r.len j)] 55)).rowIs wr.heap.size 55 2 (fun i => if i = 0 then .int .u64 (r.at_ j) else .int .u64 (r.len j)) :=
        World.rowIs_alloc wr #[.int .u64 (r.at_ j), .int .u64 (r.len j)] 55 _ (fun i hi => by
          match i, hi with
          | 0, _ => rfl
          | 1, _ => rfl)
      have hrr2 := hrr.alloc (.cells #[.int .i64 (sum r j)] 3)
      have hb3 : Below w.heap.size w ((wr.alloc (.cells #[.int .u64 (r.at_ j), .int .u64 (r.len j)] 55)).alloc (.cells #[.int .i64 (sum r j)] 3)) := (hb.alloc hsw _).alloc (by simp; omega) _
      have HO := Lib.hid hown2
      have HMR2 := Lib.hid hmr2
      have HGR2 := Lib.hid hgr2
      have HRR2 := Lib.hid hrr2
      have HOB := Lib.hid hob
      have HOL := Lib.hid hol
      have HNEW : Hid (∀ (i : Nat) (u : Value), [Value.int .i64 (sum r j)][i]? = some u → ((wr.alloc (.cells #[.int .u64 (r.at_ j), .int .u64 (r.len j)] 55)).alloc (.cells #[.int .i64 (sum r j)] 3)).cell? ((⟨wr.heap.size + 1, 0, none⟩ : Addr).add i) = some u) := Lib.hid (by
        intro i u hu
        match i, hu with
        | 0, hu =>
          cases hu
          have := (World.rowIs_alloc (wr.alloc (.cells #[.int .u64 (r.at_ j), .int .u64 (r.len j)] 55)) #[.int .i64 (sum r j)] 3 (fun _ => .int .i64 (sum r j)) (fun i hi => by
            match i, hi with
            | 0, _ => rfl)).cell (i := 0) (by simp)
          rw [World.size_alloc] at this
          exact this)
      clear hown2 hmr2 hgr2 hrr hrr2 hob hol hmr hown hgr
      go_wp2_with (at_builtin; refine wpList_append_own _ rfl _ _ 56 rfl (m + 1) 3 i1 (.int .i64 0) 1 8 Try.underlying56 I1.out I2.out I3.out I4.out rfl (by decide) (.slice A2 j c2) j (starts r j) rfl HO.out ⟨wr.heap.size + 1, 0, none⟩ 1 1 [.int .i64 (sum r j)] rfl rfl HNEW.out (by simp [Value.oneCell']) (by unfold maxLen; omega) (by omega) (by simp; omega) ?_)
      intro v3 W3 hown3 g3 _
      obtain ⟨A3, c3, rfl⟩ := own_slice hown3
      have hne : ∀ b, b ≤ m ∨ b = wr.heap.size → (Value.slice A2 j c2).ownBlock ≠ some b := by
        intro b hb' e
        have e1 := HOB.out b e
        have e2 := (HOL.out b e).2
        omega
      have hmr3 := kept_row HMR2.out g3 (hne m (.inl (Nat.le_refl _)))
      have hgr3 := kept_row HGR2.out g3 (hne g1 (.inl (by omega)))
      have hrr3 := kept_row HRR2.out g3 (hne wr.heap.size (.inr rfl))
      have hb4 : Below w.heap.size w W3 := hb3.grown g3 (by simp; omega) (fun b e => by have := HOB.out b e; omega)
      have x2 := hmr3.cell (i := 2) (by omega)
      simp only [memF] at x2
      have xz2 := hmr3.frozen 2
      have y1 := hrr3.cell (i := 1) (by omega)
      have y1' : W3.cell? ⟨wr.heap.size, 1, none⟩ = some (.int .u64 (r.len j)) := y1
      have hs3 := g3.size
      rw [World.size_alloc, World.size_alloc] at hs3
      have K1 := Lib.hid hmr3
      have K2 := Lib.hid hgr3
      have K3 := Lib.hid hown3
      clear c0 c1 hmr3 hgr3 hrr3 hown3 g3 y1 m0 m1 m2 m3 z2 z3
      go_wp2_with fail
      go_roundw
      case rel =>
        refine ⟨j + 1, c3, A3, by omega, by first | rfl | (rw [show sum r (j + 1) = sum r j + r.len j from rfl]; go_num), by go_num, ?_, ?_, K2.out.setOther (by show g1 ≠ m; omega) _, by simp only [World.size_setCell]; omega, ?_⟩
        · refine (K1.out.set 2 (.slice A3 (j + 1) c3)).congr fun i hi => ?_
          match i, hi with
          | 0, _ => rfl
          | 1, _ => rfl
          | 2, _ => rfl
          | 3, _ => rfl
        · rw [starts_succ]
          refine K3.out.kept (row := some m) ⟨rfl, rfl, rfl, by simp [World.setCell], fun b hb' hne' => Below.heap_setCell W3 _ _ b (by rintro rfl; exact hne' rfl)⟩ (.inr fun e => ?_)
          have := own_block K3.out _ e
          omega
        · exact hb4.setCell (by show w.heap.size ≤ m; omega) _
      case measure => simp [intOf]; omega
    · obtain rfl : j = k := by omega
      obtain ⟨N, hN, hN1, hN2⟩ : ∃ N : Nat, sum r j = (N : Int) ∧ 1 ≤ N ∧ N ≤ 1048576 := by
        obtain ⟨p, rfl⟩ : ∃ p, j = p + 1 := ⟨j - 1, by omega⟩
        obtain ⟨p1, p2, _, _⟩ := HS.out p (by omega)
        have p3 := sum_lo HR.out p (by omega)
        have p4 : sum r (p + 1) = sum r p + r.len p := rfl
        exact ⟨(sum r (p + 1)).toNat, by omega, by omega, by omega⟩
      rw [hN]
      have HN := Lib.hid hN
      have HOW := Lib.hid hown
      have HMW := Lib.hid hmr
      have HGW := Lib.hid hgr
      clear hN hown hmr hgr m1 m2
      go_wp2_with fail
      (with_reducible refine (grow_nil N hN1 hN2 _).mono ?_)
      rintro eE W4 ⟨C, hC1, hC2, rfl, hrow4, hg4⟩
      have hC3 : (C : Int) ≤ 9223372036854775807 := by unfold maxLen at hC2; omega
      have hsg := hg4.size
      have hmr4 := HMW.out.of_block (hg4.block m hlm)
      have hgr4 := HGW.out.of_block (hg4.block g1 (by omega))
      have how4 := own_ne HOW.out (only_of_below hg4 none) (fun b e => by cases e)
      have hb4 : Below w.heap.size w W4 := hb.trans (hg4.mono hb.size)
      have q3 := hmr4.cell (i := 3) (by omega)
      simp only [memF] at q3
      have qz3 := hmr4.frozen 3
      have hcl : ∀ ty, (Builtin.clear_ #[37] ty #[.slice (some ⟨wr.heap.size, 0, none⟩) N C]).run Try.prog (W4.setCell ⟨m, 3, none⟩ (.slice (some ⟨wr.heap.size, 0, none⟩) N C)) = .ok (.tuple #[]) ((W4.setCell ⟨m, 3, none⟩ (.slice (some ⟨wr.heap.size, 0, none⟩) N C)).setCells wr.heap.size 0 (List.replicate N (.int .u8 0))) := fun ty => by
        have hr5 := hrow4.setOther (a := ⟨m, 3, none⟩) (by show wr.heap.size ≠ m; omega) (.slice (some ⟨wr.heap.size, 0, none⟩) N C)
        exact Lib.run_clear_slice _ 37 5 ty (.int .u8 0) Try.underlying37 u8zero rfl rfl wr.heap.size 0 N C (by omega) (fun i hi => by rw [Nat.zero_add, hr5.cell (by omega)]; rfl) (fun i hi => hr5.frozen _)
      have HCL := Lib.hid hcl
      have K1 := Lib.hid hmr4
      have K2 := Lib.hid hgr4
      have K3 := Lib.hid how4
      have K4 := Lib.hid hrow4
      have K5 := Lib.hid hC2
      clear hcl hmr4 hgr4 how4 hrow4 hg4 hC2 m0 m3 z2 z3
      go_wp2_with (simp only [HCL.out])
      have how5 : (W4.setCell ⟨m, 3, none⟩ (.slice (some ⟨wr.heap.size, 0, none⟩) N C)).ownsRow (m + 1) 3 1 (.slice A2 j c2) j (starts r j) :=
        own_ne K3.out (row := some m) (only_setCell (grown_refl _ _) (.inl rfl) _) (fun b e => by cases e; left; omega)
      have hlo := HOW.out.lt
      have hne5 : (Value.slice A2 j c2).ownBlock ≠ some wr.heap.size := fun e => by have := (hlo _ e).2; omega
      have how6 := how5.kept (grown_setCells wr.heap.size (List.replicate N (.int .u8 0)) 0 _ _ (grown_refl _ _)) (.inr hne5)
      have hm5 : (W4.setCell ⟨m, 3, none⟩ (.slice (some ⟨wr.heap.size, 0, none⟩) N C)).rowIs m 75 4 (memF m g1 j A2 j c2 (.slice (some ⟨wr.heap.size, 0, none⟩) N C)) :=
        (K1.out.set 3 (.slice (some ⟨wr.heap.size, 0, none⟩) N C)).congr fun i hi => by
          match i, hi with
          | 0, _ => rfl
          | 1, _ => rfl
          | 2, _ => rfl
          | 3, _ => rfl
      have hm6 := Go.rowIs_setCells_other (b := wr.heap.size) (show m ≠ wr.heap.size by omega) (List.replicate N (.int .u8 0)) 0 _ hm5
      have hg6 := Go.rowIs_setCells_other (b := wr.heap.size) (show g1 ≠ wr.heap.size by omega) (List.replicate N (.int .u8 0)) 0 _ (K2.out.setOther (a := ⟨m, 3, none⟩) (by show g1 ≠ m; omega) (.slice (some ⟨wr.heap.size, 0, none⟩) N C))
      have hr6 := (Go.rowIs_setCells (List.replicate N (.int .u8 0)) 0 _ _ (K4.out.setOther (a := ⟨m, 3, none⟩) (by show wr.heap.size ≠ m; omega) (.slice (some ⟨wr.heap.size, 0, none⟩) N C))).congr (g := fun _ => .int .u8 0) fun i hi => by
        split
        · rename_i hh
          have h2 : i - 0 < N := by have := hh.2; simp at this; omega
          rw [List.getElem?_replicate, if_pos h2]; rfl
        · rfl
      have hb6 : Below w.heap.size w ((W4.setCell ⟨m, 3, none⟩ (.slice (some ⟨wr.heap.size, 0, none⟩) N C)).setCells wr.heap.size 0 (List.replicate N (.int .u8 0))) :=
        Go.below_setCells hb.size _ _ _ (hb4.setCell (by show w.heap.size ≤ m; omega) _)
      have HF := Lib.hid (And.intro how6 (And.intro hm6 (And.intro hg6 (And.intro hr6 hb6))))
      clear how5 how6 hm5 hm6 hg6 hr6 hb6 hne5
      generalize hWF : ((W4.setCell ⟨m, 3, none⟩ (.slice (some ⟨wr.heap.size, 0, none⟩) N C)).setCells wr.heap.size 0 (List.replicate N (.int .u8 0))) = WF at HF ⊢
      go_returns
      obtain ⟨f1, f2, f3, f4, f5⟩ := HF.out
      refine ⟨m, g1, wr.heap.size, c2, N, C, A2, rfl, ⟨f2.cell (i := 0) (by omega), f2.cell (i := 1) (by omega), f2.cell (i := 2) (by omega), f2.cell (i := 3) (by omega), f2.lt, f3.lt, fun i hi => f3.cell hi, fun b o _ hbo => ?_, ?_⟩, HN.out.symm, hC1, f4, by omega, by omega, by omega, by omega, ?_, f5⟩
      · rcases hbo with rfl | rfl
        · exact f2.frozen o
        · exact f3.frozen o
      · refine (IsRow.of_own f1).congr fun i hi => ?_
        have hi' : i < j := by omega
        unfold starts stR
        simp [List.getD_eq_getElem?_getD, hi']
      · intro a ha
        subst ha
        have h1 := own_block f1 a.block rfl
        have h2 := (hlo a.block rfl).2
        exact ⟨by omega, h2⟩

end Go.Proofs.Ytmmgcmbniidieaa.GmNew
