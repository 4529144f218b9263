
/- Free lists: read. -/
import Derived.Test.YtkejcdephnkkgaaFrAdd
namespace Go.Proofs.Ytkejcdephnkkgaa.FrOpen
open Go.RowKit Rw Fe Fr FrRead FrAdd
set_option linter.unusedVariables false
set_option linter.unusedSimpArgs false

abbrev frV (s : Int) (A : Option Addr) (n c : Nat) : Value := .agg #[num s, .slice A n c]
theorem u64info : ∃ i, Try.prog.info? 25 = some i ∧ i.zero = some (.int .u64 0) ∧ i.size = 1 ∧ i.bytes = 8 :=
  info_parts (by kernel_rfl)

theorem made_bits {w : World} {base b m : Nat} (h : w.ownsRow base 25 1 (.slice (some ⟨b, 0, none⟩) m m) m (madeCells #[Value.int .u64 0] m).toList) : Bits w b m [] := by
  refine ⟨fun _ => 0#64, ?_, fun x _ => by simp⟩
  rcases h.2 with ⟨h1, _⟩ | ⟨g, cap, cur, h1, _, h3, _, _, h6, h7⟩
  · cases h1
  · cases h1
    refine ⟨cur, h3, by omega, fun i hi => ?_⟩
    have hl := h.1
    have e : cur.toList = (madeCells #[Value.int .u64 0] m).toList := by rw [← h7, List.take_of_length_le (by simp; omega)]
    have e2 : cur = madeCells #[Value.int .u64 0] m := Array.toList_inj.1 e
    rw [e2]
    have hsz : i < (madeCells #[Value.int .u64 0] m).size := by rw [← e2]; omega
    rw [Array.getElem?_eq_getElem hsz]
    simp [madeCells, Nat.mod_one]
    rfl
def ReadP (w : World) (s : Int) (A : Option Addr) (n c : Nat) (l : List Int) (e : Ending) (w' : World) : Prop :=
  ∃ b m : Nat, e = .returned (.tuple #[.agg #[.slice A n c, .slice (some ⟨b, 0, none⟩) m m], num 0]) ∧ w.heap.size ≤ b ∧ Bits w' b m l ∧ m ≤ 1000 ∧ s ≤ 64 * m ∧ Below w.heap.size w w'

set_option maxRecDepth 100000 in
set_option maxHeartbeats 2000000 in
theorem read_ok (s : Int) (A : Option Addr) (n c : Nat) (l : List Int) (w : World) (hs : Sl w w.heap.size A n c l) (hk : Ok s l) :
    Calls Try.prog 59 #[frV s A n c] w (ReadP w s A n c l) := by
  have hb0 : Below w.heap.size w w := Below.refl _ _
  obtain ⟨h1, h2, h3, h4⟩ := hk
  obtain ⟨N, rfl⟩ := Int.eq_ofNat_of_zero_le (show 0 ≤ s by omega)
  have HS := Lib.hid hs
  have H3 := Lib.hid h3
  have H4 := Lib.hid h4
  have HI := Lib.hid (inB_iff.2 h3)
  obtain ⟨i0, hi, hz0, hz1, hz2⟩ := u64info
  have I0 := Lib.hid hi
  have I1 := Lib.hid hz0
  have I2 := Lib.hid hz1
  have I3 := Lib.hid hz2
  obtain ⟨m, hm⟩ : ∃ m, (N + 63) / 64 = m := ⟨_, rfl⟩
  have q1 : ((N : Nat) : Int) + 64 - 1 = ((N + 63 : Nat) : Int) := by omega
  have q2 : (((N : Nat) : Int) + 64 - 1).tdiv 64 = ((m : Nat) : Int) := by rw [q1, Int.tdiv_eq_ediv_of_nonneg (by omega)]; omega
  have hm1 : m ≤ 1000 := by omega
  have hm2 : N ≤ 64 * m := by omega
  clear hs h3 h4 hi hz0 hz1 hz2 q1 hm
  unfold ReadP
  go_enter Try.func59, Try.ntmps59
  go_wp2_with fail
  refine (validSize_is _ true (by simp; omega) _).mono ?_
  rintro e w' ⟨rfl, rfl⟩
  go_wp2_with fail
  refine (within_is _ A n c l true HI.out _ ((HS.out.below (by go_grown)).more (by go_size))).mono ?_
  rintro eE W1 ⟨rfl, hg1⟩
  have hb1 : Below w.heap.size w W1 := (show Below w.heap.size w _ by go_grown).trans (hg1.mono (by first | omega | go_size))
  obtain ⟨hc1, hf1⟩ := bcell hg1
  have hs1 := hg1.size
  try simp only [World.size_alloc, World.size_setCell, World.size_drew] at hs1
  have hl1_0_0 : W1.cell? ⟨w.heap.size, 0, none⟩ = some (num N) := (hc1 _ _ (by first | omega | go_size)).trans (by first | (with_reducible assumption) | go_cell)
  have hz1_0_0 : W1.frozen? ⟨w.heap.size, 0, none⟩ = false := (hf1 _ _ (by first | omega | go_size)).trans (by first | (with_reducible assumption) | (go_simp; done) | (simp [*]; done))
  have hl1_0_1 : W1.cell? ⟨w.heap.size, 1, none⟩ = some (.slice A n c) := (hc1 _ _ (by first | omega | go_size)).trans (by first | (with_reducible assumption) | go_cell)
  have hz1_0_1 : W1.frozen? ⟨w.heap.size, 1, none⟩ = false := (hf1 _ _ (by first | omega | go_size)).trans (by first | (with_reducible assumption) | (go_simp; done) | (simp [*]; done))
  have hk1_0 : w.heap.size < W1.heap.size := by omega
  have hl1_1_0 : W1.cell? ⟨w.heap.size + 1, 0, none⟩ = some (.slice none 0 0) := (hc1 _ _ (by first | omega | go_size)).trans (by first | (with_reducible assumption) | go_cell)
  have hz1_1_0 : W1.frozen? ⟨w.heap.size + 1, 0, none⟩ = false := (hf1 _ _ (by first | omega | go_size)).trans (by first | (with_reducible assumption) | (go_simp; done) | (simp [*]; done))
  have hl1_1_1 : W1.cell? ⟨w.heap.size + 1, 1, none⟩ = some (.slice none 0 0) := (hc1 _ _ (by first | omega | go_size)).trans (by first | (with_reducible assumption) | go_cell)
  have hz1_1_1 : W1.frozen? ⟨w.heap.size + 1, 1, none⟩ = false := (hf1 _ _ (by first | omega | go_size)).trans (by first | (with_reducible assumption) | (go_simp; done) | (simp [*]; done))
  have hk1_1 : w.heap.size + 1 < W1.heap.size := by omega
  clear hg1 hc1 hf1
  go_wp2_with (at_make; refine wpList_make_full _ rfl _ _ 91 rfl W1.heap.size 25 i0 (.int .u64 0) 1 Try.underlying91 I0.out I1.out I2.out _ _ _ _ m rfl rfl rfl rfl (by rw [I3.out]; omega) (by unfold maxLen; omega) (Nat.le_refl _) ?_)
  intro W2 ho2 hg2
  have hbits := Lib.hid (made_bits ho2)
  have hg2' : Below W1.heap.size W1 W2 := (Below.refl _ W1).grown hg2 (Nat.le_refl _) (fun k e => by cases e)
  have S2 := Lib.hid (show Sl W2 W1.heap.size A n c l from ((HS.out.below (hb1.trans (hg2'.mono (by omega)))).more (by omega)))
  have hlt2 := hbits.out.lt
  clear ho2 hg2
  have hg2 := hg2'
  have hb2 : Below w.heap.size w W2 := (show Below w.heap.size w _ by go_grown).trans (hg2.mono (by first | omega | go_size))
  obtain ⟨hc2, hf2⟩ := bcell hg2
  have hs2 := hg2.size
  try simp only [World.size_alloc, World.size_setCell, World.size_drew] at hs2
  have hl2_0_0 : W2.cell? ⟨w.heap.size, 0, none⟩ = some (num N) := (hc2 _ _ (by first | omega | go_size)).trans (by first | (with_reducible assumption) | go_cell)
  have hz2_0_0 : W2.frozen? ⟨w.heap.size, 0, none⟩ = false := (hf2 _ _ (by first | omega | go_size)).trans (by first | (with_reducible assumption) | (go_simp; done) | (simp [*]; done))
  have hl2_0_1 : W2.cell? ⟨w.heap.size, 1, none⟩ = some (.slice A n c) := (hc2 _ _ (by first | omega | go_size)).trans (by first | (with_reducible assumption) | go_cell)
  have hz2_0_1 : W2.frozen? ⟨w.heap.size, 1, none⟩ = false := (hf2 _ _ (by first | omega | go_size)).trans (by first | (with_reducible assumption) | (go_simp; done) | (simp [*]; done))
  have hk2_0 : w.heap.size < W2.heap.size := by omega
  have hl2_1_0 : W2.cell? ⟨w.heap.size + 1, 0, none⟩ = some (.slice none 0 0) := (hc2 _ _ (by first | omega | go_size)).trans (by first | (with_reducible assumption) | go_cell)
  have hz2_1_0 : W2.frozen? ⟨w.heap.size + 1, 0, none⟩ = false := (hf2 _ _ (by first | omega | go_size)).trans (by first | (with_reducible assumption) | (go_simp; done) | (simp [*]; done))
  have hl2_1_1 : W2.cell? ⟨w.heap.size + 1, 1, none⟩ = some (.slice none 0 0) := (hc2 _ _ (by first | omega | go_size)).trans (by first | (with_reducible assumption) | go_cell)
  have hz2_1_1 : W2.frozen? ⟨w.heap.size + 1, 1, none⟩ = false := (hf2 _ _ (by first | omega | go_size)).trans (by first | (with_reducible assumption) | (go_simp; done) | (simp [*]; done))
  have hk2_1 : w.heap.size + 1 < W2.heap.size := by omega
  clear hg2 hc2 hf2
  go_wp2_with fail
  refine (add_any W1.heap.size m A n c [] l W2 hbits.out (by omega) S2.out (fun x hx => by have := H3.out x hx; omega) (by simp)).mono ?_
  rintro e W3 ⟨r, rfl, hr1, hr2, hg3⟩
  cases r with
  | false => exact absurd (by simpa using H4.out) (hr2 rfl)
  | true =>
    have hb3 := (hr1 rfl).2
    rw [List.nil_append] at hb3
    have HB3 := Lib.hid hb3
    have hbw3 : Below W1.heap.size W1 W3 := (hg2').grown hg3 (by omega) (fun k e => by cases e; exact Nat.le_refl _)
    clear hr1 hr2 hg3 hb3
    have hg3 := hbw3
    have hb3 : Below w.heap.size w W3 := (show Below w.heap.size w _ by go_grown).trans (hg3.mono (by first | omega | go_size))
    obtain ⟨hc3, hf3⟩ := bcell hg3
    have hs3 := hg3.size
    try simp only [World.size_alloc, World.size_setCell, World.size_drew] at hs3
    have hl3_0_0 : W3.cell? ⟨w.heap.size, 0, none⟩ = some (num N) := (hc3 _ _ (by first | omega | go_size)).trans (by first | (with_reducible assumption) | go_cell)
    have hz3_0_0 : W3.frozen? ⟨w.heap.size, 0, none⟩ = false := (hf3 _ _ (by first | omega | go_size)).trans (by first | (with_reducible assumption) | (go_simp; done) | (simp [*]; done))
    have hl3_0_1 : W3.cell? ⟨w.heap.size, 1, none⟩ = some (.slice A n c) := (hc3 _ _ (by first | omega | go_size)).trans (by first | (with_reducible assumption) | go_cell)
    have hz3_0_1 : W3.frozen? ⟨w.heap.size, 1, none⟩ = false := (hf3 _ _ (by first | omega | go_size)).trans (by first | (with_reducible assumption) | (go_simp; done) | (simp [*]; done))
    have hk3_0 : w.heap.size < W3.heap.size := by omega
    have hl3_1_0 : W3.cell? ⟨w.heap.size + 1, 0, none⟩ = some (.slice none 0 0) := (hc3 _ _ (by first | omega | go_size)).trans (by first | (with_reducible assumption) | go_cell)
    have hz3_1_0 : W3.frozen? ⟨w.heap.size + 1, 0, none⟩ = false := (hf3 _ _ (by first | omega | go_size)).trans (by first | (with_reducible assumption) | (go_simp; done) | (simp [*]; done))
    have hl3_1_1 : W3.cell? ⟨w.heap.size + 1, 1, none⟩ = some (.slice none 0 0) := (hc3 _ _ (by first | omega | go_size)).trans (by first | (with_reducible assumption) | go_cell)
    have hz3_1_1 : W3.frozen? ⟨w.heap.size + 1, 1, none⟩ = false := (hf3 _ _ (by first | omega | go_size)).trans (by first | (with_reducible assumption) | (go_simp; done) | (simp [*]; done))
    have hk3_1 : w.heap.size + 1 < W3.heap.size := by omega
    clear hg3 hc3 hf3
    go_wp2_with fail
    refine Lib.bodyPost_here2 (w.heap.size + 1) (.slice A n c) (.slice (some ⟨W1.heap.size, 0, none⟩) m m) (.tuple #[.agg #[.slice A n c, .slice (some ⟨W1.heap.size, 0, none⟩) m m], num 0]) ?_ ?_ rfl ?_ ?_
    · first | (with_reducible assumption) | go_cell | (go_simp; done) | (simp [*]; done)
    · first | (with_reducible assumption) | go_cell | (go_simp; done) | (simp [*]; done)
    · intro WG qr0 qr1
      simp [results, Try.results59, go_sem, qr0, qr1]
    exact ⟨W1.heap.size, m, rfl, by omega, (HB3.out.setOther (by simp; omega) _).setOther (by simp; omega) _, hm1, by omega, by go_grown⟩

/-- A list that is not valid. -/
def badB (s : Int) (l : List Int) : Bool := !(decide (1 ≤ s) && decide (s ≤ 32768) && inB s l && decide l.Nodup)
def BadP (w : World) (e : Ending) (w' : World) : Prop := e = .returned (.tuple #[.agg #[.slice none 0 0, .slice none 0 0], num 2]) ∧ Below w.heap.size w w'

set_option maxRecDepth 100000 in
set_option maxHeartbeats 2000000 in
theorem read_bad (s : Int) (A : Option Addr) (n c : Nat) (l : List Int) (w : World) (hs : Sl w w.heap.size A n c l) (hk : badB s l = true) :
    Calls Try.prog 59 #[frV s A n c] w (BadP w) := by
  have hb0 : Below w.heap.size w w := Below.refl _ _
  have HS := Lib.hid hs
  have HK := Lib.hid hk
  clear hs hk
  unfold BadP
  cases hsz : (decide (1 ≤ s) && decide (s ≤ 32768)) with
  | false =>
    have HZ := Lib.hid hsz
    clear hsz
    go_enter Try.func59, Try.ntmps59
    go_wp2_with fail
    refine (validSize_is _ false HZ.out _).mono ?_
    rintro e w' ⟨rfl, rfl⟩
    go_wp2_with fail
    refine Lib.bodyPost_at2 (B := w.heap.size) (w := w) (w.heap.size + 1) (.slice none 0 0) (.slice none 0 0) (.tuple #[.agg #[.slice none 0 0, .slice none 0 0], num 2]) ?_ ?_ ?_ rfl ?_ (fun WG hWG => ⟨rfl, hWG⟩)
    · first | (with_reducible assumption) | go_cell | (go_simp; done) | (simp [*]; done)
    · first | (with_reducible assumption) | go_cell | (go_simp; done) | (simp [*]; done)
    · go_grown
    · intro WG qr0 qr1
      simp [results, Try.results59, go_sem, qr0, qr1]
  | true =>
    have hbd : 1 ≤ s ∧ s ≤ 32768 := by simpa using hsz
    have HZ := Lib.hid hsz
    obtain ⟨h1, h2⟩ := hbd
    obtain ⟨N, rfl⟩ := Int.eq_ofNat_of_zero_le (show 0 ≤ s by omega)
    clear hsz
    cases hin : inB ((N : Nat) : Int) l with
    | false =>
      have HI := Lib.hid hin
      clear hin
      go_enter Try.func59, Try.ntmps59
      go_wp2_with fail
      refine (validSize_is _ true HZ.out _).mono ?_
      rintro e w' ⟨rfl, rfl⟩
      go_wp2_with fail
      refine (within_is _ A n c l false HI.out _ ((HS.out.below (by go_grown)).more (by go_size))).mono ?_
      rintro eE W1 ⟨rfl, hg1⟩
      have hb1 : Below w.heap.size w W1 := (show Below w.heap.size w _ by go_grown).trans (hg1.mono (by first | omega | go_size))
      obtain ⟨hc1, hf1⟩ := bcell hg1
      have hs1 := hg1.size
      try simp only [World.size_alloc, World.size_setCell, World.size_drew] at hs1
      have hl1_0_0 : W1.cell? ⟨w.heap.size, 0, none⟩ = some (num N) := (hc1 _ _ (by first | omega | go_size)).trans (by first | (with_reducible assumption) | go_cell)
      have hz1_0_0 : W1.frozen? ⟨w.heap.size, 0, none⟩ = false := (hf1 _ _ (by first | omega | go_size)).trans (by first | (with_reducible assumption) | (go_simp; done) | (simp [*]; done))
      have hl1_0_1 : W1.cell? ⟨w.heap.size, 1, none⟩ = some (.slice A n c) := (hc1 _ _ (by first | omega | go_size)).trans (by first | (with_reducible assumption) | go_cell)
      have hz1_0_1 : W1.frozen? ⟨w.heap.size, 1, none⟩ = false := (hf1 _ _ (by first | omega | go_size)).trans (by first | (with_reducible assumption) | (go_simp; done) | (simp [*]; done))
      have hk1_0 : w.heap.size < W1.heap.size := by omega
      have hl1_1_0 : W1.cell? ⟨w.heap.size + 1, 0, none⟩ = some (.slice none 0 0) := (hc1 _ _ (by first | omega | go_size)).trans (by first | (with_reducible assumption) | go_cell)
      have hz1_1_0 : W1.frozen? ⟨w.heap.size + 1, 0, none⟩ = false := (hf1 _ _ (by first | omega | go_size)).trans (by first | (with_reducible assumption) | (go_simp; done) | (simp [*]; done))
      have hl1_1_1 : W1.cell? ⟨w.heap.size + 1, 1, none⟩ = some (.slice none 0 0) := (hc1 _ _ (by first | omega | go_size)).trans (by first | (with_reducible assumption) | go_cell)
      have hz1_1_1 : W1.frozen? ⟨w.heap.size + 1, 1, none⟩ = false := (hf1 _ _ (by first | omega | go_size)).trans (by first | (with_reducible assumption) | (go_simp; done) | (simp [*]; done))
      have hk1_1 : w.heap.size + 1 < W1.heap.size := by omega
      clear hg1 hc1 hf1
      go_wp2_with fail
      refine Lib.bodyPost_at2 (B := w.heap.size) (w := w) (w.heap.size + 1) (.slice none 0 0) (.slice none 0 0) (.tuple #[.agg #[.slice none 0 0, .slice none 0 0], num 2]) ?_ ?_ ?_ rfl ?_ (fun WG hWG => ⟨rfl, hWG⟩)
      · first | (with_reducible assumption) | go_cell | (go_simp; done) | (simp [*]; done)
      · first | (with_reducible assumption) | go_cell | (go_simp; done) | (simp [*]; done)
      · go_grown
      · intro WG qr0 qr1
        simp [results, Try.results59, go_sem, qr0, qr1]
    | true =>
      have HI := Lib.hid hin
      have H4 := Lib.hid (show ¬ l.Nodup from by have := HK.out; unfold badB at this; rw [HZ.out, hin] at this; simpa using this)
      have H3 := Lib.hid (inB_iff.1 hin)
      obtain ⟨i0, hi, hz0, hz1, hz2⟩ := u64info
      have I0 := Lib.hid hi
      have I1 := Lib.hid hz0
      have I2 := Lib.hid hz1
      have I3 := Lib.hid hz2
      obtain ⟨m, hm⟩ : ∃ m, (N + 63) / 64 = m := ⟨_, rfl⟩
      have q1 : ((N : Nat) : Int) + 64 - 1 = ((N + 63 : Nat) : Int) := by omega
      have q2 : (((N : Nat) : Int) + 64 - 1).tdiv 64 = ((m : Nat) : Int) := by rw [q1, Int.tdiv_eq_ediv_of_nonneg (by omega)]; omega
      have hm1 : m ≤ 1000 := by omega
      have hm2 : N ≤ 64 * m := by omega
      clear hin hi hz0 hz1 hz2 q1 hm
      go_enter Try.func59, Try.ntmps59
      go_wp2_with fail
      refine (validSize_is _ true HZ.out _).mono ?_
      rintro e w' ⟨rfl, rfl⟩
      go_wp2_with fail
      refine (within_is _ A n c l true HI.out _ ((HS.out.below (by go_grown)).more (by go_size))).mono ?_
      rintro eE W1 ⟨rfl, hg1⟩
      have hb1 : Below w.heap.size w W1 := (show Below w.heap.size w _ by go_grown).trans (hg1.mono (by first | omega | go_size))
      obtain ⟨hc1, hf1⟩ := bcell hg1
      have hs1 := hg1.size
      try simp only [World.size_alloc, World.size_setCell, World.size_drew] at hs1
      have hl1_0_0 : W1.cell? ⟨w.heap.size, 0, none⟩ = some (num N) := (hc1 _ _ (by first | omega | go_size)).trans (by first | (with_reducible assumption) | go_cell)
      have hz1_0_0 : W1.frozen? ⟨w.heap.size, 0, none⟩ = false := (hf1 _ _ (by first | omega | go_size)).trans (by first | (with_reducible assumption) | (go_simp; done) | (simp [*]; done))
      have hl1_0_1 : W1.cell? ⟨w.heap.size, 1, none⟩ = some (.slice A n c) := (hc1 _ _ (by first | omega | go_size)).trans (by first | (with_reducible assumption) | go_cell)
      have hz1_0_1 : W1.frozen? ⟨w.heap.size, 1, none⟩ = false := (hf1 _ _ (by first | omega | go_size)).trans (by first | (with_reducible assumption) | (go_simp; done) | (simp [*]; done))
      have hk1_0 : w.heap.size < W1.heap.size := by omega
      have hl1_1_0 : W1.cell? ⟨w.heap.size + 1, 0, none⟩ = some (.slice none 0 0) := (hc1 _ _ (by first | omega | go_size)).trans (by first | (with_reducible assumption) | go_cell)
      have hz1_1_0 : W1.frozen? ⟨w.heap.size + 1, 0, none⟩ = false := (hf1 _ _ (by first | omega | go_size)).trans (by first | (with_reducible assumption) | (go_simp; done) | (simp [*]; done))
      have hl1_1_1 : W1.cell? ⟨w.heap.size + 1, 1, none⟩ = some (.slice none 0 0) := (hc1 _ _ (by first | omega | go_size)).trans (by first | (with_reducible assumption) | go_cell)
      have hz1_1_1 : W1.frozen? ⟨w.heap.size + 1, 1, none⟩ = false := (hf1 _ _ (by first | omega | go_size)).trans (by first | (with_reducible assumption) | (go_simp; done) | (simp [*]; done))
      have hk1_1 : w.heap.size + 1 < W1.heap.size := by omega
      clear hg1 hc1 hf1
      go_wp2_with (at_make; refine wpList_make_full _ rfl _ _ 91 rfl W1.heap.size 25 i0 (.int .u64 0) 1 Try.underlying91 I0.out I1.out I2.out _ _ _ _ m rfl rfl rfl rfl (by rw [I3.out]; omega) (by unfold maxLen; omega) (Nat.le_refl _) ?_)
      intro W2 ho2 hg2
      have hbits := Lib.hid (made_bits ho2)
      have hg2' : Below W1.heap.size W1 W2 := (Below.refl _ W1).grown hg2 (Nat.le_refl _) (fun k e => by cases e)
      have S2 := Lib.hid (show Sl W2 W1.heap.size A n c l from ((HS.out.below (hb1.trans (hg2'.mono (by omega)))).more (by omega)))
      have hlt2 := hbits.out.lt
      clear ho2 hg2
      have hg2 := hg2'
      have hb2 : Below w.heap.size w W2 := (show Below w.heap.size w _ by go_grown).trans (hg2.mono (by first | omega | go_size))
      obtain ⟨hc2, hf2⟩ := bcell hg2
      have hs2 := hg2.size
      try simp only [World.size_alloc, World.size_setCell, World.size_drew] at hs2
      have hl2_0_0 : W2.cell? ⟨w.heap.size, 0, none⟩ = some (num N) := (hc2 _ _ (by first | omega | go_size)).trans (by first | (with_reducible assumption) | go_cell)
      have hz2_0_0 : W2.frozen? ⟨w.heap.size, 0, none⟩ = false := (hf2 _ _ (by first | omega | go_size)).trans (by first | (with_reducible assumption) | (go_simp; done) | (simp [*]; done))
      have hl2_0_1 : W2.cell? ⟨w.heap.size, 1, none⟩ = some (.slice A n c) := (hc2 _ _ (by first | omega | go_size)).trans (by first | (with_reducible assumption) | go_cell)
      have hz2_0_1 : W2.frozen? ⟨w.heap.size, 1, none⟩ = false := (hf2 _ _ (by first | omega | go_size)).trans (by first | (with_reducible assumption) | (go_simp; done) | (simp [*]; done))
      have hk2_0 : w.heap.size < W2.heap.size := by omega
      have hl2_1_0 : W2.cell? ⟨w.heap.size + 1, 0, none⟩ = some (.slice none 0 0) := (hc2 _ _ (by first | omega | go_size)).trans (by first | (with_reducible assumption) | go_cell)
      have hz2_1_0 : W2.frozen? ⟨w.heap.size + 1, 0, none⟩ = false := (hf2 _ _ (by first | omega | go_size)).trans (by first | (with_reducible assumption) | (go_simp; done) | (simp [*]; done))
      have hl2_1_1 : W2.cell? ⟨w.heap.size + 1, 1, none⟩ = some (.slice none 0 0) := (hc2 _ _ (by first | omega | go_size)).trans (by first | (with_reducible assumption) | go_cell)
      have hz2_1_1 : W2.frozen? ⟨w.heap.size + 1, 1, none⟩ = false := (hf2 _ _ (by first | omega | go_size)).trans (by first | (with_reducible assumption) | (go_simp; done) | (simp [*]; done))
      have hk2_1 : w.heap.size + 1 < W2.heap.size := by omega
      clear hg2 hc2 hf2
      go_wp2_with fail
      refine (add_any W1.heap.size m A n c [] l W2 hbits.out (by omega) S2.out (fun x hx => by have := H3.out x hx; omega) (by simp)).mono ?_
      rintro e W3 ⟨r, rfl, hr1, hr2, hg3⟩
      cases r with
      | true => exact absurd (by simpa using (hr1 rfl).1) H4.out
      | false =>
        have hbw3 : Below W1.heap.size W1 W3 := hg2'.grown hg3 (by omega) (fun k e => by cases e; exact Nat.le_refl _)
        clear hr1 hr2 hg3
        have hg3 := hbw3
        have hb3 : Below w.heap.size w W3 := (show Below w.heap.size w _ by go_grown).trans (hg3.mono (by first | omega | go_size))
        obtain ⟨hc3, hf3⟩ := bcell hg3
        have hs3 := hg3.size
        try simp only [World.size_alloc, World.size_setCell, World.size_drew] at hs3
        have hl3_0_0 : W3.cell? ⟨w.heap.size, 0, none⟩ = some (num N) := (hc3 _ _ (by first | omega | go_size)).trans (by first | (with_reducible assumption) | go_cell)
        have hz3_0_0 : W3.frozen? ⟨w.heap.size, 0, none⟩ = false := (hf3 _ _ (by first | omega | go_size)).trans (by first | (with_reducible assumption) | (go_simp; done) | (simp [*]; done))
        have hl3_0_1 : W3.cell? ⟨w.heap.size, 1, none⟩ = some (.slice A n c) := (hc3 _ _ (by first | omega | go_size)).trans (by first | (with_reducible assumption) | go_cell)
        have hz3_0_1 : W3.frozen? ⟨w.heap.size, 1, none⟩ = false := (hf3 _ _ (by first | omega | go_size)).trans (by first | (with_reducible assumption) | (go_simp; done) | (simp [*]; done))
        have hk3_0 : w.heap.size < W3.heap.size := by omega
        have hl3_1_0 : W3.cell? ⟨w.heap.size + 1, 0, none⟩ = some (.slice none 0 0) := (hc3 _ _ (by first | omega | go_size)).trans (by first | (with_reducible assumption) | go_cell)
        have hz3_1_0 : W3.frozen? ⟨w.heap.size + 1, 0, none⟩ = false := (hf3 _ _ (by first | omega | go_size)).trans (by first | (with_reducible assumption) | (go_simp; done) | (simp [*]; done))
        have hl3_1_1 : W3.cell? ⟨w.heap.size + 1, 1, none⟩ = some (.slice none 0 0) := (hc3 _ _ (by first | omega | go_size)).trans (by first | (with_reducible assumption) | go_cell)
        have hz3_1_1 : W3.frozen? ⟨w.heap.size + 1, 1, none⟩ = false := (hf3 _ _ (by first | omega | go_size)).trans (by first | (with_reducible assumption) | (go_simp; done) | (simp [*]; done))
        have hk3_1 : w.heap.size + 1 < W3.heap.size := by omega
        clear hg3 hc3 hf3
        go_wp2_with fail
        refine Lib.bodyPost_at2 (B := w.heap.size) (w := w) (w.heap.size + 1) (.slice none 0 0) (.slice none 0 0) (.tuple #[.agg #[.slice none 0 0, .slice none 0 0], num 2]) ?_ ?_ ?_ rfl ?_ (fun WG hWG => ⟨rfl, hWG⟩)
        · first | (with_reducible assumption) | go_cell | (go_simp; done) | (simp [*]; done)
        · first | (with_reducible assumption) | go_cell | (go_simp; done) | (simp [*]; done)
        · go_grown
        · intro WG qr0 qr1
          simp [results, Try.results59, go_sem, qr0, qr1]

end Go.Proofs.Ytkejcdephnkkgaa.FrOpen
