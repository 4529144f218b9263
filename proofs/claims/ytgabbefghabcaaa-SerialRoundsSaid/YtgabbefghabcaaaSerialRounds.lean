/- The law SerialRounds: step by step through all positions of two rounds; the words are all different. For every input; no condition. -/
import Derived.Test.YtgabbefghabcaaaSerFwd
import Derived.Test.YtgabbefghabcaaaPos
import Derived.Test.YtgabbefghabcaaaHeld
import Derived.Maps.Own
import Derived.Maps.Views
namespace Go.Proofs.Ytgabbefghabcaaa.SerialRounds
open Go.ChangeShapes Go.WideShapes Go.ChangeAt Go.RowKit Ser Go.BigFrame
set_option linter.unusedVariables false
set_option linter.unusedSimpArgs false

theorem law : Maps.Keyed Try.prog 28 := Maps.int_keyed Try.underlying28

/-- The position after k steps, and its word. -/
def atK (n k : Nat) : Int := ((k % n : Nat) : Int)
def wrapK (n k : Nat) : Bool := decide (k / n % 2 = 0)
def wordK (n k : Nat) : Int := SerBits.wordI (atK n k) (wrapK n k)

/-- What is held at the head of a round. -/
def Rel (n : Nat) (w : World) (b m : Nat) (k : Nat) (wr : World) : Prop :=
  k ≤ 2 * n ∧ Below w.heap.size w wr ∧ b < m ∧ w.heap.size ≤ b ∧ m < wr.heap.size ∧ wr.cell? ⟨b, 0, none⟩ = some (num (atK n k)) ∧ wr.cell? ⟨b, 1, none⟩ = some (.bool (wrapK n k)) ∧
  wr.frozen? ⟨b, 0, none⟩ = false ∧ wr.frozen? ⟨b, 1, none⟩ = false ∧
  ∃ D : DataW Unit, wr.ownsMap Try.prog 28 (plainElem Try.prog 4) m k D ∧ ∀ j, k ≤ j → j < 2 * n → D.atKey (.int .u16 (wordK n j)) (.lit (.bool false)) = .lit (.bool false)

theorem at_lo (n k : Nat) (h : k < n) : atK n k = k ∧ wrapK n k = true := by
  unfold atK wrapK
  rw [Nat.mod_eq_of_lt h, Nat.div_eq_of_lt h]; simp
theorem at_hi (n k : Nat) (h : n ≤ k) (h' : k < 2 * n) : atK n k = k - n ∧ wrapK n k = false := by
  unfold atK wrapK
  have e : k / n = 1 := by
    rw [Nat.div_eq_iff (by omega)]; omega
  rw [Nat.mod_eq_sub_mod h, Nat.mod_eq_of_lt (by omega), e]; simp; omega
theorem at_end (n : Nat) (h : 1 ≤ n) : atK n (2 * n) = 0 ∧ wrapK n (2 * n) = true := by
  unfold atK wrapK
  rw [Nat.mul_mod_left, Nat.mul_div_cancel _ (by omega)]; simp
theorem fwd_step (n k : Nat) (hn : 1 ≤ n) (h : k < 2 * n) : fwd (atK n k) (wrapK n k) 1 n = (atK n (k + 1), wrapK n (k + 1)) := by
  have e := at_end n hn
  unfold fwd
  rcases Nat.lt_or_ge k n with h1 | h1
  · have a := at_lo n k h1
    rw [a.1, a.2]
    rcases Nat.lt_or_ge (k + 1) n with h2 | h2
    · have b := at_lo n (k + 1) h2
      rw [b.1, b.2, if_pos (by omega)]; simp
    · have b := at_hi n (k + 1) h2 (by omega)
      rw [b.1, b.2, if_neg (by omega)]; simp
  · have a := at_hi n k h1 h
    rw [a.1, a.2]
    rcases Nat.lt_or_ge (k + 1) (2 * n) with h2 | h2
    · have b := at_hi n (k + 1) (by omega) h2
      rw [b.1, b.2, if_pos (by omega)]; simp; omega
    · have hk : k + 1 = 2 * n := by omega
      rw [hk, e.1, e.2, if_neg (by omega)]; simp; omega
theorem word_of (n k : Nat) (hn : 1 ≤ n ∧ n ≤ 200) (h : k < 2 * n) : wordK n k = if k < n then (k : Int) + 32768 else (k : Int) - n := by
  unfold wordK SerBits.wordI
  rcases Nat.lt_or_ge k n with h1 | h1
  · have a := at_lo n k h1
    rw [a.1, a.2, if_pos h1]; simp only [reduceIte]; omega
  · have a := at_hi n k h1 h
    rw [a.1, a.2, if_neg (show ¬ k < n by omega)]; simp only [Bool.false_eq_true, reduceIte]; omega
theorem word_ne (n j k : Nat) (hn : 1 ≤ n ∧ n ≤ 200) (h : k < j) (hj : j < 2 * n) : wordK n j ≠ wordK n k := by
  rw [word_of n j hn hj, word_of n k hn (by omega)]
  split <;> split <;> omega
theorem between_step (n k : Nat) (hn : 1 ≤ n ∧ n ≤ 200) (h : k < 2 * n) (w : World) :
    Calls Try.prog 29 #[posV 0 true, posV (atK n k) (wrapK n k), num n] w (Gives w.heap.size w (.tuple #[num k, num 0])) := by
  rcases Nat.lt_or_ge k n with h1 | h1
  · have a := at_lo n k h1
    rw [a.1, a.2]
    have := s_between_same 0 k n true ⟨⟨by omega, by omega⟩, by omega, by omega⟩ ⟨⟨by omega, by omega⟩, by omega, by omega⟩ w
    rw [if_neg (by omega), Int.sub_zero] at this
    exact this
  · have a := at_hi n k h1 h
    rw [a.1, a.2]
    have := s_between_other 0 (k - n) n true ⟨⟨by omega, by omega⟩, by omega, by omega⟩ ⟨⟨by omega, by omega⟩, by omega, by omega⟩ w
    rw [show (k : Int) - n - 0 + n = k by omega] at this
    exact this

theorem owns_step {w w' : World} {b n : Nat} {P : Program} {k : TypeId} {R : Value → Option (DataW Unit × List MemPlace)} {D : DataW Unit} (hb : Below w.heap.size w w') (h : w.ownsMap P k R b n D) : w'.ownsMap P k R b n D := by
  have hlt := h.lt
  obtain ⟨es, clock, h1, h2, h3, h4⟩ := h
  exact ⟨es, clock, (hb.block b hlt).trans h1, h2, h3, h4⟩
theorem owns_setCell {w : World} {b n : Nat} {P : Program} {k : TypeId} {R : Value → Option (DataW Unit × List MemPlace)} {D : DataW Unit} (a : Addr) (v : Value) (h : w.ownsMap P k R b n D) (hne : b ≠ a.block) : (w.setCell a v).ownsMap P k R b n D := by
  obtain ⟨es, clock, h1, h2, h3, h4⟩ := h
  exact ⟨es, clock, (Below.heap_setCell w a v b hne).trans h1, h2, h3, h4⟩
theorem zeroB (w : World) : (zeroValue 4).run Try.prog w = .ok (.bool false) w := by kernel_rfl
theorem bool_inv {P : Program} {e : TypeId} (he : P.underlying e = some .bool) {v : Value} {d : DataW Unit} {ps : List MemPlace} {x : Bool} (h : plainElem P e v = some (d, ps)) (hd : d = .lit (.bool x)) : v = .bool x := by
  unfold plainElem at h
  rw [he] at h
  subst hd
  cases v <;> simp_all
theorem lookup_none {w : World} {b n : Nat} {D : DataW Unit} {x : Int} (h : w.ownsMap Try.prog 28 (plainElem Try.prog 4) b n D) (hx : (Lit.int .u16 x).wf = true)
    (hno : D.atKey (.int .u16 x) (.lit (.bool false)) = .lit (.bool false)) : (Instr.lookup 49 (.map (some b)) (.int .u16 x) false).run Try.prog w = .ok (.bool false) w := by
  obtain ⟨v, ps, h1, h2⟩ := h.lookup law Try.underlying49 (zeroB w) (plainElem_bool Try.underlying4 false) (Maps.keyOf_int_mk Try.underlying28 hx)
  rw [hno] at h2
  rw [h1, bool_inv Try.underlying4 h2 rfl]

theorem walk (a0 : Int) (w0 : (Lit.int .i64 a0).wf = true) (w : World) : Calls Try.prog 9 #[num a0] w (Lib.True1 w.heap.size w) := by
  unfold Lib.True1
  have hb0 : Below w.heap.size w w := Below.refl _ _
  have hmm := @run_makeMap Try.prog
  go_enter Try.func9, Try.ntmps9
  go_wp2_with fail
  refine (lives_any _).mono ?_
  rintro e W1 ⟨rfl, hg1⟩
  have hb1 : Below w.heap.size w W1 := (show Below w.heap.size w _ by go_grown).trans (hg1.mono (by go_size))
  obtain ⟨hc1, hf1⟩ := bcell hg1
  have hs1 := hg1.size
  try simp only [World.size_alloc, World.size_setCell, World.size_drew] at hs1
  clear hg1 hc1 hf1
  go_wp2_with fail
  refine (pick_some a0 200 (by omega) w0 _).mono ?_
  rintro e w' ⟨q, hk1, hk2, rfl, rfl⟩
  go_wp2_with fail
  obtain ⟨n, rfl⟩ := Int.eq_ofNat_of_zero_le hk1
  obtain ⟨s, hs⟩ : ∃ s : Nat, 1 + n = s := ⟨_, rfl⟩
  rw [show (1 : Int) + (n : Int) = (s : Int) by omega]
  have hsa : 1 ≤ s := by omega
  have hsb : s ≤ 200 := by omega
  clear hs hk1 hk2
  refine (s_start _).mono ?_
  rintro e W2 ⟨rfl, hg2⟩
  have hb2 : Below w.heap.size w W2 := (show Below w.heap.size w _ by go_grown).trans (hg2.mono (by go_size))
  obtain ⟨hc2, hf2⟩ := bcell hg2
  have hs2 := hg2.size
  try simp only [World.size_alloc, World.size_setCell, World.size_drew] at hs2
  clear hg2 hc2 hf2
  go_wp2_with fail
  go_loopw [5] (fun v wr => ∃ k : Nat, v = .int .i64 k ∧ Rel s w W2.heap.size (W2.heap.size + 1) k wr) (fun v _ => 2 * s - (intOf v).toNat)
  case atStart =>
    have e0 := at_lo s 0 (by omega)
    refine ⟨0, rfl, by omega, by go_grown, by omega, by omega, by simp, ?_, ?_, ?_, ?_, .map [], ?_, ?_⟩
    · rw [e0.1]; go_simp
    · rw [e0.2]; go_simp
    · go_simp
    · go_simp
    · have h := World.ownsMap_made (H := Unit) (W2.alloc (.cells #[num 0, .bool true] 23)) Try.prog 28 (plainElem Try.prog 4)
      rw [World.size_alloc] at h
      exact h
    · intro j _ _; rfl
  case round =>
    obtain ⟨k, rfl, hk, hbr, hlt, hle, hlm, hc0, hc1, hf0, hf1, D, hown, hno⟩ := hrel
    have hb0r : Below wr.heap.size wr wr := Below.refl _ _
    have Hno := Lib.hid hno
    clear hno
    by_cases hk2 : k < 2 * s
    · have Hbt := Lib.hid (between_step s k ⟨hsa, hsb⟩ hk2)
      obtain ⟨x, hx⟩ : ∃ x, atK s k = x := ⟨_, rfl⟩
      obtain ⟨y, hy⟩ : ∃ y, wrapK s k = y := ⟨_, rfl⟩
      obtain ⟨o, ho⟩ : ∃ o, wordK s k = o := ⟨_, rfl⟩
      rw [hx] at hc0
      rw [hy] at hc1
      have Hx := Lib.hid hx
      have Hy := Lib.hid hy
      have Ho := Lib.hid ho
      clear hx hy ho
      rw [Hx.out, Hy.out] at Hbt
      go_wp2_with fail
      refine Lib.wp_region_class (Lib.Held wr _ [(W2.heap.size, 0, (num x : Value)), (W2.heap.size, 1, (.bool y : Value))]) (by kernel_rfl) (by kernel_rfl) ⟨by go_grown, Below.refl _ _, ⟨by first | omega | go_size, by first | go_cell | (simp [*]; done), by first | (with_reducible assumption) | (go_simp; done) | (simp [*]; done)⟩, ⟨by first | omega | go_size, by first | go_cell | (simp [*]; done), by first | (with_reducible assumption) | (go_simp; done) | (simp [*]; done)⟩, trivial⟩ ?_
      repeat (first | go_big_quiet_step ((intro hq; first | rfl | (go_at_call 14; exact Lib.Held.call hq (s_start _)) | (go_at_call 29; exact Lib.Held.call hq (Hbt.out _)) | (have hq' := hq; obtain ⟨hbq, heq, ⟨hkq_0, hlq_0, hzq_0⟩, ⟨hkq_1, hlq_1, hzq_1⟩, _⟩ := hq'; go_simp; rfl))) | quiet_step ((intro hq; first | rfl | (go_at_call 14; exact Lib.Held.call hq (s_start _)) | (go_at_call 29; exact Lib.Held.call hq (Hbt.out _)) | (have hq' := hq; obtain ⟨hbq, heq, ⟨hkq_0, hlq_0, hzq_0⟩, ⟨hkq_1, hlq_1, hzq_1⟩, _⟩ := hq'; go_simp; rfl))))
      refine wpQuiet_nil ?_
      intro W3 hq3
      obtain ⟨hb3, he3, ⟨hk3_0, hl3_0, hz3_0⟩, ⟨hk3_1, hl3_1, hz3_1⟩, _⟩ := hq3
      have hs3 := he3.size
      try simp only [World.size_alloc, World.size_setCell, World.size_drew] at hs3
      go_wp2_with fail
      have hown3 := owns_step hb3 hown
      refine (s_word_any x y _).mono ?_
      rw [show SerBits.wordI x y = o by rw [← Ho.out, ← Hx.out, ← Hy.out]; rfl]
      rintro e W4 ⟨rfl, hg4⟩
      have hb4 : Below wr.heap.size wr W4 := (show Below wr.heap.size wr _ by go_grown).trans (hg4.mono (by go_size))
      obtain ⟨hc4, hf4⟩ := bcell hg4
      have hs4 := hg4.size
      try simp only [World.size_alloc, World.size_setCell, World.size_drew] at hs4
      have hl4_0_0 : W4.cell? ⟨W2.heap.size, 0, none⟩ = some (num x) := (hc4 _ _ (by go_size)).trans (by go_cell)
      have hz4_0_0 : W4.frozen? ⟨W2.heap.size, 0, none⟩ = false := (hf4 _ _ (by go_size)).trans (by first | (with_reducible assumption) | (go_simp; done) | (simp [*]; done))
      have hl4_0_1 : W4.cell? ⟨W2.heap.size, 1, none⟩ = some (.bool y) := (hc4 _ _ (by go_size)).trans (by go_cell)
      have hz4_0_1 : W4.frozen? ⟨W2.heap.size, 1, none⟩ = false := (hf4 _ _ (by go_size)).trans (by first | (with_reducible assumption) | (go_simp; done) | (simp [*]; done))
      have hk4_0 : W2.heap.size < W4.heap.size := by omega
      clear hg4 hc4 hf4
      go_wp2_with fail
      have hown4 := owns_step hb4 hown
      have how : (Lit.int .u16 o).wf = true := by
        have := SerBits.wordI_lo (atK s k) (wrapK s k)
        rw [show SerBits.wordI (atK s k) (wrapK s k) = o from Ho.out] at this
        exact WalkArith.wf_u16 this
      have hlook : ∀ wq, Below wr.heap.size wr wq → (Instr.lookup 49 (.map (some (W2.heap.size + 1))) (.int .u16 o) false).run Try.prog wq = .ok (.bool false) wq := fun wq hq =>
        lookup_none (owns_step hq hown) how (by have := Hno.out k (Nat.le_refl _) hk2; rw [show wordK s k = o from Ho.out] at this; exact this)
      have Hlook := Lib.hid hlook
      clear hlook
      have hrem : (k : Int) % (s : Int) = x := by rw [← Hx.out]; unfold atK; omega
      have hlts : decide (k < s) = y := by
        rw [← Hy.out]
        rcases Nat.lt_or_ge k s with h1 | h1
        · rw [(at_lo s k h1).2]; simpa using h1
        · rw [(at_hi s k h1 hk2).2]; simpa using h1
      refine Lib.wp_region_class (Lib.Held wr _ [(W2.heap.size, 0, (num x : Value)), (W2.heap.size, 1, (.bool y : Value))]) (by kernel_rfl) (by kernel_rfl) ⟨by go_grown, Below.refl _ _, ⟨by first | omega | go_size, by first | go_cell | (simp [*]; done), by first | (with_reducible assumption) | (go_simp; done) | (simp [*]; done)⟩, ⟨by first | omega | go_size, by first | go_cell | (simp [*]; done), by first | (with_reducible assumption) | (go_simp; done) | (simp [*]; done)⟩, trivial⟩ ?_
      repeat (first | go_big_quiet_step ((intro hq; first | rfl | (have hl := Hlook.out _ hq.1; rw [hl]; go_simp; rfl) | (have hq' := hq; obtain ⟨hbq, heq, ⟨hkq_0, hlq_0, hzq_0⟩, ⟨hkq_1, hlq_1, hzq_1⟩, _⟩ := hq'; go_simp; rfl))) | quiet_step ((intro hq; first | rfl | (have hl := Hlook.out _ hq.1; rw [hl]; go_simp; rfl) | (have hq' := hq; obtain ⟨hbq, heq, ⟨hkq_0, hlq_0, hzq_0⟩, ⟨hkq_1, hlq_1, hzq_1⟩, _⟩ := hq'; go_simp; rfl))))
      refine wpQuiet_nil ?_
      intro W5 hq5
      obtain ⟨hb5, he5, ⟨hk5_0, hl5_0, hz5_0⟩, ⟨hk5_1, hl5_1, hz5_1⟩, _⟩ := hq5
      have hs5 := he5.size
      try simp only [World.size_alloc, World.size_setCell, World.size_drew] at hs5
      have hown5 := owns_step hb5 hown
      have hlm5 := hb5.size
      go_wp2_with (at_mapUpdate; refine wpList_mapUpdate_own _ rfl _ _ _ 49 rfl 28 4 law Try.underlying49 _ (W2.heap.size + 1) k D rfl hown5 (by unfold maxLen; omega) _ _ _ rfl rfl (Maps.keyOf_int_mk Try.underlying28 how) _ [] (plainElem_bool Try.underlying4 true) ?_; intro W6 hown6 hgr6; have hs6 := hgr6.size; have hb6 : Below w.heap.size w W6 := (hbr.trans (hb5.mono (by omega))).grown hgr6 (by omega) (fun k e => by cases e; omega); have hl6_0 := (World.cell?_of_block (w := W5) (a := ⟨W2.heap.size, 0, none⟩) (hgr6.block _ (by omega) (by simp))).trans hl5_0; have hl6_1 := (World.cell?_of_block (w := W5) (a := ⟨W2.heap.size, 1, none⟩) (hgr6.block _ (by omega) (by simp))).trans hl5_1; have hz6_0 := (World.frozen?_of_block (w := W5) (a := ⟨W2.heap.size, 0, none⟩) (hgr6.block _ (by omega) (by simp))).trans hz5_0; have hz6_1 := (World.frozen?_of_block (w := W5) (a := ⟨W2.heap.size, 1, none⟩) (hgr6.block _ (by omega) (by simp))).trans hz5_1; have Hgr6 := Lib.hid hgr6; clear hgr6)
      have hb0r6 : Below W6.heap.size W6 W6 := Below.refl _ _
      obtain ⟨⟨x', y'⟩, hxy⟩ : ∃ z, fwd x y 1 s = z := ⟨_, rfl⟩
      have Hxy := Lib.hid hxy
      have hxr : 0 ≤ x ∧ x < s := by rw [← Hx.out]; unfold atK; have := Nat.mod_lt k (show s > 0 by omega); omega
      clear hxy
      refine (go_is x 1 s x' y y' (by omega) Hxy.out _).mono ?_
      rintro e W7 ⟨rfl, hg7⟩
      have hb7 : Below W6.heap.size W6 W7 := (show Below W6.heap.size W6 _ by go_grown).trans (hg7.mono (by go_size))
      obtain ⟨hc7, hf7⟩ := bcell hg7
      have hs7 := hg7.size
      try simp only [World.size_alloc, World.size_setCell, World.size_drew] at hs7
      have hl7_0_0 : W7.cell? ⟨W2.heap.size, 0, none⟩ = some (num x) := (hc7 _ _ (by go_size)).trans (by go_cell)
      have hz7_0_0 : W7.frozen? ⟨W2.heap.size, 0, none⟩ = false := (hf7 _ _ (by go_size)).trans (by first | (with_reducible assumption) | (go_simp; done) | (simp [*]; done))
      have hl7_0_1 : W7.cell? ⟨W2.heap.size, 1, none⟩ = some (.bool y) := (hc7 _ _ (by go_size)).trans (by go_cell)
      have hz7_0_1 : W7.frozen? ⟨W2.heap.size, 1, none⟩ = false := (hf7 _ _ (by go_size)).trans (by first | (with_reducible assumption) | (go_simp; done) | (simp [*]; done))
      have hk7_0 : W2.heap.size < W7.heap.size := by omega
      clear hg7 hc7 hf7
      go_wp2_with fail
      have hown7 := owns_step hb7 hown6
      have hs67 := hb7.size
      have Hst := fwd_step s k hsa hk2
      rw [Hx.out, Hy.out, Hxy.out] at Hst
      have hst1 : x' = atK s (k + 1) := congrArg Prod.fst Hst
      have hst2 : y' = wrapK s (k + 1) := congrArg Prod.snd Hst
      go_roundw
      case rel =>
        refine ⟨k + 1, by go_num, by omega, ?_, by omega, by omega, by simp; omega, ?_, ?_, ?_, ?_, D.put (.int .u16 o) (.lit (.bool true)), ?_, ?_⟩
        · exact ((hb6.trans (hb7.mono hb6.size)).setCell (p := ⟨_, _, none⟩) (by omega) _).setCell (p := ⟨_, _, none⟩) (by omega) _
        · rw [← hst1]; go_simp
        · rw [← hst2]; go_simp
        · go_simp
        · go_simp
        · exact owns_setCell _ _ (owns_setCell _ _ hown7 (by simp)) (by simp)
        · intro j h1 h2
          rw [Maps.atKey_put_other]
          · exact Hno.out j (by omega) h2
          · intro e
            have := word_ne s j k ⟨hsa, hsb⟩ (by omega) h2
            rw [show wordK s k = o from Ho.out] at this
            exact this (by injection e)
      case measure => simp [intOf]; omega
    · obtain rfl : k = 2 * s := by omega
      have e := at_end s hsa
      rw [e.1] at hc0
      rw [e.2] at hc1
      clear hk
      go_wp2_with fail
      refine Lib.wp_region_class (Lib.Held wr _ [(W2.heap.size, 0, (num 0 : Value)), (W2.heap.size, 1, (.bool true : Value))]) (by kernel_rfl) (by kernel_rfl) ⟨by go_grown, Below.refl _ _, ⟨by first | omega | go_size, by first | go_cell | (simp [*]; done), by first | (with_reducible assumption) | (go_simp; done) | (simp [*]; done)⟩, ⟨by first | omega | go_size, by first | go_cell | (simp [*]; done), by first | (with_reducible assumption) | (go_simp; done) | (simp [*]; done)⟩, trivial⟩ ?_
      repeat (first | go_big_quiet_step ((intro hq; first | rfl | (go_at_call 14; exact Lib.Held.call hq (s_start _)) | (have hq' := hq; obtain ⟨hbq, heq, ⟨hkq_0, hlq_0, hzq_0⟩, ⟨hkq_1, hlq_1, hzq_1⟩, _⟩ := hq'; go_simp; rfl))) | quiet_step ((intro hq; first | rfl | (go_at_call 14; exact Lib.Held.call hq (s_start _)) | (have hq' := hq; obtain ⟨hbq, heq, ⟨hkq_0, hlq_0, hzq_0⟩, ⟨hkq_1, hlq_1, hzq_1⟩, _⟩ := hq'; go_simp; rfl))))
      refine wpQuiet_nil ?_
      intro W3 hq3
      obtain ⟨hb3, he3, ⟨hk3_0, hl3_0, hz3_0⟩, ⟨hk3_1, hl3_1, hz3_1⟩, _⟩ := hq3
      have hs3 := he3.size
      try simp only [World.size_alloc, World.size_setCell, World.size_drew] at hs3
      go_wp2_with fail
      go_ret
      exact ⟨rfl, hbr.trans (hb3.mono hbr.size)⟩

set_option maxRecDepth 100000 in
theorem lifted (os : Os) (started : os.Started) (H : Type) (enc : TypeId × Value → H) :
    ReturnsInHanded {} Try.checked os 9 .any (Rows.serialRoundsSpec.pre6 enc Try.prog Try.f9 Rows.serialRoundsRow.domain false) (Rows.serialRoundsSpec.post enc Try.prog Try.f9 false true false false) := by
  refine Lib.lifted (C := Try.checked) (tb := 4) H enc Lib.own started (by kernel_rfl) Try.func9
    (ChangeSpec.witness6 (enc := enc) (C := Try.checked) false ⟨#[], #[.int .i64 0], []⟩ 8 (by kernel_rfl) (by kernel_rfl) (by kernel_rfl) (by kernel_rfl))
    Lib.laidOut (Lib.readable_of (by kernel_rfl)) rfl Try.underlying4 rfl ?_ ?_
  · intro ds h
    match ds, h with
    | [_], _ => exact ⟨rfl, rfl, rfl⟩
  · intro W base args ds p hval hA hfz hlt
    rw [Try.params9] at hval
    have hA' : DataW.TrodAll enc Try.prog W 0 (fun _ => true) true Try.f9.params.toList args.toList ds p := hA
    rw [Try.params9] at hA'
    obtain ⟨v0, vs0, d0, ds0, p0, q0, hargs, rfl, rfl, h0, r0⟩ := trodAll_cons hA'
    obtain ⟨rfl, rfl, rfl⟩ := trodAll_nil r0
    obtain rfl : args = #[v0] := by cases args; simp_all
    obtain ⟨a0, rfl, rfl, rfl, w0⟩ := open_int Try.underlying3 (hval 0 3 v0 rfl rfl) h0
    exact walk a0 w0 W

theorem over : Rows.serialRoundsRow.holds Try.pinned (OpenSpec.ofChange Rows.serialRoundsSpec) :=
  OpenClaim.holds_of_wide 9 Try.f9 rfl rfl rfl rfl rfl rfl rfl ⟨rfl, rfl, rfl, rfl, rfl⟩ rfl rfl rfl rfl rfl (by kernel_rfl) Try.func9 (by kernel_rfl)
    (of_decide_eq_true (by kernel_rfl)) (by unfold Func.isWrapper; first | (rw [if_pos (by decide +kernel)]; kernel_rfl) | (rw [if_neg (by decide +kernel)]; exact ⟨rfl, rfl⟩))
    (fun os started H enc _ => lifted os started H enc)

/-- The statement. -/
theorem proved : Rows.SerialRoundsSaid :=
  over

end Go.Proofs.Ytgabbefghabcaaa.SerialRounds
