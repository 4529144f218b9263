
/- Free lists: New, Check, Count, Is, Same. -/
import Derived.Test.YtkejcdephnkkgaaFrBuild
import Derived.Test.YtkejcdephnkkgaaPick
namespace Go.Proofs.Ytkejcdephnkkgaa.FrCalls
open Go.RowKit Rw Fe Fr FrRead FrAdd FrOpen FrBuild Own
set_option linter.unusedVariables false
set_option linter.unusedSimpArgs false

/-- All numbers below n, in order. -/
def seqI (n : Nat) : List Int := (List.range n).map fun (i : Nat) => ((i : Nat) : Int)
theorem seqI_length (n : Nat) : (seqI n).length = n := by simp [seqI]
theorem seqI_getD {n j : Nat} (h : j < n) : (seqI n).getD j 0 = j := by
  unfold seqI
  simp [List.getD_eq_getElem?_getD, h]
theorem seqI_mem {n : Nat} {x : Int} : x ∈ seqI n ↔ 0 ≤ x ∧ x < n := by
  unfold seqI
  simp only [List.mem_map, List.mem_range]
  constructor
  · rintro ⟨i, h, rfl⟩; omega
  · intro ⟨h1, h2⟩; exact ⟨x.toNat, by omega, by omega⟩
theorem seqI_nodup (n : Nat) : (seqI n).Nodup := by
  unfold seqI
  exact List.pairwise_map.2 (List.Pairwise.imp (fun h e => h (by omega)) List.nodup_range)
theorem seqI_ok {n : Nat} (h1 : 1 ≤ n) (h2 : n ≤ 32768) : Ok (n : Int) (seqI n) := ⟨by omega, by omega, fun x hx => by have := seqI_mem.1 hx; omega, seqI_nodup n⟩

theorem made_row {w : World} {base b m : Nat} (h : w.ownsRow base 3 1 (.slice (some ⟨b, 0, none⟩) m m) m (madeCells #[Value.int .i64 0] m).toList) : w.rowIs b 3 m (fun _ => num 0) := by
  rcases h.2 with ⟨h1, _⟩ | ⟨g, cap, cur, h1, _, h3, _, _, h6, h7⟩
  · cases h1
  · cases h1
    refine ⟨cur, h3, by omega, fun i hi => ?_⟩
    have hl := h.1
    have e : cur.toList = (madeCells #[Value.int .i64 0] m).toList := by rw [← h7, List.take_of_length_le (by simp; omega)]
    have e2 : cur = madeCells #[Value.int .i64 0] m := Array.toList_inj.1 e
    rw [e2]
    have hsz : i < (madeCells #[Value.int .i64 0] m).size := by rw [← e2]; omega
    rw [Array.getElem?_eq_getElem hsz]
    simp [madeCells, Nat.mod_one]
def NewP (w : World) (n : Nat) (e : Ending) (w' : World) : Prop := ∃ (C : Option Addr) (cc : Nat), e = .returned (.tuple #[frV n C n cc, num 0]) ∧ Sl w' w'.heap.size C n cc (seqI n) ∧ New w.heap.size C n ∧ Below w.heap.size w w'

set_option maxRecDepth 100000 in
set_option maxHeartbeats 2000000 in
theorem new_is (n : Nat) (w : World) (h1 : 1 ≤ n) (h2 : n ≤ 32768) : Calls Try.prog 32 #[num n] w (NewP w n) := by
  have hb0 : Below w.heap.size w w := Below.refl _ _
  obtain ⟨i0, hi, hz0, hz1, hz2⟩ := i64info
  have I0 := Lib.hid hi
  have I1 := Lib.hid hz0
  have I2 := Lib.hid hz1
  have I3 := Lib.hid hz2
  clear hi hz0 hz1 hz2
  unfold NewP
  go_enter Try.func32, Try.ntmps32
  go_wp2_with fail
  refine (validSize_is _ true (by simp; omega) _).mono ?_
  rintro e w' ⟨rfl, rfl⟩
  go_wp2_with (at_make; refine wpList_make_full _ rfl _ _ 54 rfl (w.heap.size + 1) 3 i0 (.int .i64 0) 1 Try.underlying54 I0.out I1.out I2.out _ _ _ _ n rfl rfl rfl rfl (by rw [I3.out]; omega) (by unfold maxLen; omega) (by simp) ?_)
  intro W2 ho2 hg2
  have hb2 : Below w.heap.size w W2 := (show Below w.heap.size w _ by go_grown).grown hg2 (by simp) (fun k e => by cases e)
  have hl2_0_0 : W2.cell? ⟨w.heap.size, 0, none⟩ = some (num 0) := (World.cell?_of_block (hg2.block w.heap.size (by simp) (by simp))).trans (by go_cell)
  have hl2_0_1 : W2.cell? ⟨w.heap.size, 1, none⟩ = some (.slice none 0 0) := (World.cell?_of_block (hg2.block w.heap.size (by simp) (by simp))).trans (by go_cell)
  have hz2_0_0 : W2.frozen? ⟨w.heap.size, 0, none⟩ = false := (World.frozen?_of_block (hg2.block w.heap.size (by simp) (by simp))).trans (by simp)
  have hz2_0_1 : W2.frozen? ⟨w.heap.size, 1, none⟩ = false := (World.frozen?_of_block (hg2.block w.heap.size (by simp) (by simp))).trans (by simp)
  have hr2 := Lib.hid (made_row ho2)
  obtain ⟨b, hbw⟩ : ∃ b, w.heap.size + 1 = b := ⟨_, rfl⟩
  rw [hbw] at hr2 ⊢
  have hlt2 := hr2.out.lt
  clear ho2 hg2
  go_wp2_with fail
  go_loopw [5, 13] (fun x i wr => ∃ k : Nat, k ≤ n ∧ i = num k ∧ wr.rowIs b 3 n (fun j => if j < k then num j else num 0) ∧ W2.grownBy wr (some b)) (fun x i wr => n - (intOf i).toNat)
  case atStart => exact ⟨0, by omega, rfl, hr2.out.congr fun j hj => by rw [if_neg (by omega)], World.grownBy.refl _ _⟩
  case round =>
    obtain ⟨k, hk, rfl, hr, hg⟩ := hrel
    by_cases hlt : k < n
    · have c0 := hr.cell hlt
      have z0 := hr.frozen k
      go_wp2_with fail
      go_roundw
      case rel => exact ⟨k + 1, by omega, by go_num, (hr.set k (num k)).congr fun j hj => by
        by_cases e : j = k
        · subst e; simp
        · by_cases e2 : j < k
          · simp [e, e2, show j < k + 1 from by omega]
          · simp [e, e2, show ¬ j < k + 1 from by omega], only_setCell hg (.inl rfl) _⟩
      case measure => simp [intOf]; omega
    · obtain rfl : k = n := by omega
      have hgs := hg.size
      have e0 : wr.cell? ⟨w.heap.size, 0, none⟩ = some (num 0) := (World.cell?_of_block (hg.block w.heap.size (by omega) (fun e => by injection e with e; omega))).trans hl2_0_0
      have e1 : wr.cell? ⟨w.heap.size, 1, none⟩ = some (.slice none 0 0) := (World.cell?_of_block (hg.block w.heap.size (by omega) (fun e => by injection e with e; omega))).trans hl2_0_1
      have y0 : wr.frozen? ⟨w.heap.size, 0, none⟩ = false := (World.frozen?_of_block (hg.block w.heap.size (by omega) (fun e => by injection e with e; omega))).trans hz2_0_0
      have y1 : wr.frozen? ⟨w.heap.size, 1, none⟩ = false := (World.frozen?_of_block (hg.block w.heap.size (by omega) (fun e => by injection e with e; omega))).trans hz2_0_1
      have hbe : Below w.heap.size w wr := hb2.grown hg (by omega) (fun k e => by cases e; omega)
      have HR := Lib.hid hr
      clear hr hg hl2_0_0 hl2_0_1 hz2_0_0 hz2_0_1
      go_wp2_with fail
      refine Lib.bodyPost_here2 (w.heap.size) (num k) (.slice (some ⟨b, 0, none⟩) k k) (.tuple #[frV k (some ⟨b, 0, none⟩) k k, num 0]) ?_ ?_ rfl ?_ ?_
      · first | (with_reducible assumption) | go_cell | (go_simp; done) | (simp [*]; done)
      · first | (with_reducible assumption) | go_cell | (go_simp; done) | (simp [*]; done)
      · intro WG qr0 qr1
        simp [results, Try.results32, go_sem, qr0, qr1]
      exact ⟨some ⟨b, 0, none⟩, k, rfl, ⟨seqI_length k, Nat.le_refl _, by unfold maxLen; omega, (fun e => by cases e), (IsRow.of_rowIs (c := k) ((HR.out.setOther (by simp; omega) _).setOther (by simp; omega) _) (by omega)).congr fun j hj => by
        unfold cellI
        rw [seqI_getD (by omega), if_pos (by omega)]⟩, (fun ad e _ => by injection e with e; subst e; show _ ≤ b; omega), by go_grown⟩

theorem new_no (s : Int) (w : World) (h : (decide (1 ≤ s) && decide (s ≤ 32768)) = false) : Calls Try.prog 32 #[num s] w fun e w' => e = .returned (.tuple #[frV 0 none 0 0, num 2]) ∧ Below w.heap.size w w' := by
  have H := Lib.hid h
  clear h
  go_enter Try.func32, Try.ntmps32
  go_wp2_with fail
  refine (validSize_is _ false H.out _).mono ?_
  rintro e w' ⟨rfl, rfl⟩
  go_wp2_with fail
  refine Lib.bodyPost_at2 (B := w.heap.size) (w := w) (w.heap.size) (num 0) (.slice none 0 0) (.tuple #[frV 0 none 0 0, num 2]) ?_ ?_ ?_ rfl ?_ (fun WG hWG => ⟨rfl, hWG⟩)
  · first | (with_reducible assumption) | go_cell | (go_simp; done) | (simp [*]; done)
  · first | (with_reducible assumption) | go_cell | (go_simp; done) | (simp [*]; done)
  · go_grown
  · intro WG qr0 qr1
    simp [results, Try.results32, go_sem, qr0, qr1]

set_option maxRecDepth 100000 in
set_option maxHeartbeats 2000000 in
theorem check_ok (s : Int) (A : Option Addr) (n c : Nat) (l : List Int) (w : World) (hs : Sl w w.heap.size A n c l) (hk : Ok s l) :
    Calls Try.prog 38 #[frV s A n c] w fun e w' => e = .returned (num 0) ∧ Below w.heap.size w w' := by
  have hb0 : Below w.heap.size w w := Below.refl _ _
  have HS := Lib.hid hs
  have HK := Lib.hid hk
  clear hs hk
  go_enter Try.func38, Try.ntmps38
  go_wp2_with fail
  refine (read_ok s A n c l _ ((HS.out.below (by go_grown)).more (by go_size)) HK.out).mono ?_
  rintro eE W1 ⟨b, m, rfl, hbb, hbits, hm1, hm2, hg1⟩
  have hb1 : Below w.heap.size w W1 := (show Below w.heap.size w _ by go_grown).trans (hg1.mono (by first | omega | go_size))
  obtain ⟨hc1, hf1⟩ := bcell hg1
  have hs1 := hg1.size
  try simp only [World.size_alloc, World.size_setCell, World.size_drew] at hs1
  have hl1_0_0 : W1.cell? ⟨w.heap.size, 0, none⟩ = some (num s) := (hc1 _ _ (by first | omega | go_size)).trans (by first | (with_reducible assumption) | go_cell)
  have hz1_0_0 : W1.frozen? ⟨w.heap.size, 0, none⟩ = false := (hf1 _ _ (by first | omega | go_size)).trans (by first | (with_reducible assumption) | (go_simp; done) | (simp [*]; done))
  have hl1_0_1 : W1.cell? ⟨w.heap.size, 1, none⟩ = some (.slice A n c) := (hc1 _ _ (by first | omega | go_size)).trans (by first | (with_reducible assumption) | go_cell)
  have hz1_0_1 : W1.frozen? ⟨w.heap.size, 1, none⟩ = false := (hf1 _ _ (by first | omega | go_size)).trans (by first | (with_reducible assumption) | (go_simp; done) | (simp [*]; done))
  have hk1_0 : w.heap.size < W1.heap.size := by omega
  clear hg1 hc1 hf1
  go_wp2_with fail
  go_ret
  exact ⟨rfl, by go_grown⟩
theorem check_bad (s : Int) (A : Option Addr) (n c : Nat) (l : List Int) (w : World) (hs : Sl w w.heap.size A n c l) (hk : badB s l = true) :
    Calls Try.prog 38 #[frV s A n c] w fun e w' => e = .returned (num 2) ∧ Below w.heap.size w w' := by
  have hb0 : Below w.heap.size w w := Below.refl _ _
  have HS := Lib.hid hs
  have HK := Lib.hid hk
  clear hs hk
  go_enter Try.func38, Try.ntmps38
  go_wp2_with fail
  refine (read_bad s A n c l _ ((HS.out.below (by go_grown)).more (by go_size)) HK.out).mono ?_
  rintro eE W1 ⟨rfl, hg1⟩
  have hb1 : Below w.heap.size w W1 := (show Below w.heap.size w _ by go_grown).trans (hg1.mono (by first | omega | go_size))
  obtain ⟨hc1, hf1⟩ := bcell hg1
  have hs1 := hg1.size
  try simp only [World.size_alloc, World.size_setCell, World.size_drew] at hs1
  clear hg1 hc1 hf1
  go_wp2_with fail
  go_ret
  exact ⟨rfl, by go_grown⟩
set_option maxRecDepth 100000 in
set_option maxHeartbeats 2000000 in
theorem count_ok (s : Int) (A : Option Addr) (n c : Nat) (l : List Int) (w : World) (hs : Sl w w.heap.size A n c l) (hk : Ok s l) :
    Calls Try.prog 36 #[frV s A n c] w fun e w' => e = .returned (num n) ∧ Below w.heap.size w w' := by
  have hb0 : Below w.heap.size w w := Below.refl _ _
  have HS := Lib.hid hs
  have HK := Lib.hid hk
  clear hs hk
  go_enter Try.func36, Try.ntmps36
  go_wp2_with fail
  refine (read_ok s A n c l _ ((HS.out.below (by go_grown)).more (by go_size)) HK.out).mono ?_
  rintro eE W1 ⟨b, m, rfl, hbb, hbits, hm1, hm2, hg1⟩
  have hb1 : Below w.heap.size w W1 := (show Below w.heap.size w _ by go_grown).trans (hg1.mono (by first | omega | go_size))
  obtain ⟨hc1, hf1⟩ := bcell hg1
  have hs1 := hg1.size
  try simp only [World.size_alloc, World.size_setCell, World.size_drew] at hs1
  have hl1_0_0 : W1.cell? ⟨w.heap.size, 0, none⟩ = some (num s) := (hc1 _ _ (by first | omega | go_size)).trans (by first | (with_reducible assumption) | go_cell)
  have hz1_0_0 : W1.frozen? ⟨w.heap.size, 0, none⟩ = false := (hf1 _ _ (by first | omega | go_size)).trans (by first | (with_reducible assumption) | (go_simp; done) | (simp [*]; done))
  have hl1_0_1 : W1.cell? ⟨w.heap.size, 1, none⟩ = some (.slice A n c) := (hc1 _ _ (by first | omega | go_size)).trans (by first | (with_reducible assumption) | go_cell)
  have hz1_0_1 : W1.frozen? ⟨w.heap.size, 1, none⟩ = false := (hf1 _ _ (by first | omega | go_size)).trans (by first | (with_reducible assumption) | (go_simp; done) | (simp [*]; done))
  have hk1_0 : w.heap.size < W1.heap.size := by omega
  clear hg1 hc1 hf1
  go_wp2_with fail
  go_ret
  exact ⟨rfl, by go_grown⟩
set_option maxRecDepth 100000 in
set_option maxHeartbeats 2000000 in
theorem is_ok (s x : Int) (A : Option Addr) (n c : Nat) (l : List Int) (r : Bool) (w : World) (hs : Sl w w.heap.size A n c l) (hk : Ok s l) (hr : decide (x ∈ l) = r) :
    Calls Try.prog 37 #[frV s A n c, num x] w fun e w' => e = .returned (.bool r) ∧ Below w.heap.size w w' := by
  have hb0 : Below w.heap.size w w := Below.refl _ _
  have HS := Lib.hid hs
  have HK := Lib.hid hk
  have HR := Lib.hid hr
  clear hs hk hr
  by_cases hin : 0 ≤ x ∧ x < s
  · obtain ⟨h1, h2⟩ := hin
    obtain ⟨y, rfl⟩ := Int.eq_ofNat_of_zero_le h1
    go_enter Try.func37, Try.ntmps37
    go_wp2_with fail
    refine (read_ok s A n c l _ ((HS.out.below (by go_grown)).more (by go_size)) HK.out).mono ?_
    rintro eE W1 ⟨b, m, rfl, hbb, hbits, hm1, hm2, hg1⟩
    have HB := Lib.hid hbits
    have hlt := hbits.lt
    clear hbits
    have hb1 : Below w.heap.size w W1 := (show Below w.heap.size w _ by go_grown).trans (hg1.mono (by first | omega | go_size))
    obtain ⟨hc1, hf1⟩ := bcell hg1
    have hs1 := hg1.size
    try simp only [World.size_alloc, World.size_setCell, World.size_drew] at hs1
    have hl1_0_0 : W1.cell? ⟨w.heap.size, 0, none⟩ = some (num s) := (hc1 _ _ (by first | omega | go_size)).trans (by first | (with_reducible assumption) | go_cell)
    have hz1_0_0 : W1.frozen? ⟨w.heap.size, 0, none⟩ = false := (hf1 _ _ (by first | omega | go_size)).trans (by first | (with_reducible assumption) | (go_simp; done) | (simp [*]; done))
    have hl1_0_1 : W1.cell? ⟨w.heap.size, 1, none⟩ = some (.slice A n c) := (hc1 _ _ (by first | omega | go_size)).trans (by first | (with_reducible assumption) | go_cell)
    have hz1_0_1 : W1.frozen? ⟨w.heap.size, 1, none⟩ = false := (hf1 _ _ (by first | omega | go_size)).trans (by first | (with_reducible assumption) | (go_simp; done) | (simp [*]; done))
    have hk1_0 : w.heap.size < W1.heap.size := by omega
    clear hg1 hc1 hf1
    go_wp2_with fail
    refine (valid_is s y true (by simp; omega) _).mono ?_
    rintro e w' ⟨rfl, rfl⟩
    go_wp2_with fail
    refine (has_is b m y l r _ ((HB.out.of_block (heap_alloc_old _ _ hlt))) (by omega) (by omega) HR.out).mono ?_
    rintro eE W2 ⟨rfl, hg2⟩
    have hb2 : Below w.heap.size w W2 := (show Below w.heap.size w _ by go_grown).trans (hg2.mono (by first | omega | go_size))
    obtain ⟨hc2, hf2⟩ := bcell hg2
    have hs2 := hg2.size
    try simp only [World.size_alloc, World.size_setCell, World.size_drew] at hs2
    have hl2_0_0 : W2.cell? ⟨w.heap.size, 0, none⟩ = some (num s) := (hc2 _ _ (by first | omega | go_size)).trans (by first | (with_reducible assumption) | go_cell)
    have hz2_0_0 : W2.frozen? ⟨w.heap.size, 0, none⟩ = false := (hf2 _ _ (by first | omega | go_size)).trans (by first | (with_reducible assumption) | (go_simp; done) | (simp [*]; done))
    have hl2_0_1 : W2.cell? ⟨w.heap.size, 1, none⟩ = some (.slice A n c) := (hc2 _ _ (by first | omega | go_size)).trans (by first | (with_reducible assumption) | go_cell)
    have hz2_0_1 : W2.frozen? ⟨w.heap.size, 1, none⟩ = false := (hf2 _ _ (by first | omega | go_size)).trans (by first | (with_reducible assumption) | (go_simp; done) | (simp [*]; done))
    have hk2_0 : w.heap.size < W2.heap.size := by omega
    clear hg2 hc2 hf2
    go_wp2_with fail
    go_ret
    exact ⟨rfl, by go_grown⟩
  · obtain rfl : r = false := by rw [← HR.out]; exact decide_eq_false fun h => hin (HK.out.ins x h)
    have HI := Lib.hid (show (decide (0 ≤ x) && decide (x < s)) = false from by
      by_cases h1 : 0 ≤ x
      · have : ¬ x < s := fun h2 => hin ⟨h1, h2⟩
        simp [this]
      · simp [h1])
    clear hin
    go_enter Try.func37, Try.ntmps37
    go_wp2_with fail
    refine (read_ok s A n c l _ ((HS.out.below (by go_grown)).more (by go_size)) HK.out).mono ?_
    rintro eE W1 ⟨b, m, rfl, hbb, hbits, hm1, hm2, hg1⟩
    clear hbits
    have hb1 : Below w.heap.size w W1 := (show Below w.heap.size w _ by go_grown).trans (hg1.mono (by first | omega | go_size))
    obtain ⟨hc1, hf1⟩ := bcell hg1
    have hs1 := hg1.size
    try simp only [World.size_alloc, World.size_setCell, World.size_drew] at hs1
    have hl1_0_0 : W1.cell? ⟨w.heap.size, 0, none⟩ = some (num s) := (hc1 _ _ (by first | omega | go_size)).trans (by first | (with_reducible assumption) | go_cell)
    have hz1_0_0 : W1.frozen? ⟨w.heap.size, 0, none⟩ = false := (hf1 _ _ (by first | omega | go_size)).trans (by first | (with_reducible assumption) | (go_simp; done) | (simp [*]; done))
    have hl1_0_1 : W1.cell? ⟨w.heap.size, 1, none⟩ = some (.slice A n c) := (hc1 _ _ (by first | omega | go_size)).trans (by first | (with_reducible assumption) | go_cell)
    have hz1_0_1 : W1.frozen? ⟨w.heap.size, 1, none⟩ = false := (hf1 _ _ (by first | omega | go_size)).trans (by first | (with_reducible assumption) | (go_simp; done) | (simp [*]; done))
    have hk1_0 : w.heap.size < W1.heap.size := by omega
    clear hg1 hc1 hf1
    go_wp2_with fail
    refine (valid_is s x false HI.out _).mono ?_
    rintro e w' ⟨rfl, rfl⟩
    go_wp2_with fail
    go_ret
    exact ⟨rfl, by go_grown⟩
set_option maxRecDepth 100000 in
set_option maxHeartbeats 2000000 in
theorem same_is (s t : Int) (A B : Option Addr) (n m c d : Nat) (l o : List Int) (r : Bool) (w : World) (h : Sl w w.heap.size A n c l) (h' : Sl w w.heap.size B m d o) (hr : (decide (s = t) && decide (l = o)) = r) :
    Calls Try.prog 39 #[frV s A n c, frV t B m d] w fun e w' => e = .returned (.bool r) ∧ Below w.heap.size w w' := by
  have hb0 : Below w.heap.size w w := Below.refl _ _
  have H := Lib.hid h
  have H' := Lib.hid h'
  by_cases he : s = t
  · subst he
    have HR := Lib.hid (show decide (l = o) = r from by simpa using hr)
    clear h h' hr
    go_enter Try.func39, Try.ntmps39
    go_wp2_with fail
    refine (equal_is A B n m c d l o _ ((H.out.below (by go_grown)).more (by go_size)) ((H'.out.below (by go_grown)).more (by go_size)) r HR.out).mono ?_
    rintro eE W1 ⟨rfl, hg1⟩
    have hb1 : Below w.heap.size w W1 := (show Below w.heap.size w _ by go_grown).trans (hg1.mono (by first | omega | go_size))
    obtain ⟨hc1, hf1⟩ := bcell hg1
    have hs1 := hg1.size
    try simp only [World.size_alloc, World.size_setCell, World.size_drew] at hs1
    have hl1_0_0 : W1.cell? ⟨w.heap.size, 0, none⟩ = some (num s) := (hc1 _ _ (by first | omega | go_size)).trans (by first | (with_reducible assumption) | go_cell)
    have hz1_0_0 : W1.frozen? ⟨w.heap.size, 0, none⟩ = false := (hf1 _ _ (by first | omega | go_size)).trans (by first | (with_reducible assumption) | (go_simp; done) | (simp [*]; done))
    have hl1_0_1 : W1.cell? ⟨w.heap.size, 1, none⟩ = some (.slice A n c) := (hc1 _ _ (by first | omega | go_size)).trans (by first | (with_reducible assumption) | go_cell)
    have hz1_0_1 : W1.frozen? ⟨w.heap.size, 1, none⟩ = false := (hf1 _ _ (by first | omega | go_size)).trans (by first | (with_reducible assumption) | (go_simp; done) | (simp [*]; done))
    have hk1_0 : w.heap.size < W1.heap.size := by omega
    have hl1_1_0 : W1.cell? ⟨w.heap.size + 1, 0, none⟩ = some (num s) := (hc1 _ _ (by first | omega | go_size)).trans (by first | (with_reducible assumption) | go_cell)
    have hz1_1_0 : W1.frozen? ⟨w.heap.size + 1, 0, none⟩ = false := (hf1 _ _ (by first | omega | go_size)).trans (by first | (with_reducible assumption) | (go_simp; done) | (simp [*]; done))
    have hl1_1_1 : W1.cell? ⟨w.heap.size + 1, 1, none⟩ = some (.slice B m d) := (hc1 _ _ (by first | omega | go_size)).trans (by first | (with_reducible assumption) | go_cell)
    have hz1_1_1 : W1.frozen? ⟨w.heap.size + 1, 1, none⟩ = false := (hf1 _ _ (by first | omega | go_size)).trans (by first | (with_reducible assumption) | (go_simp; done) | (simp [*]; done))
    have hk1_1 : w.heap.size + 1 < W1.heap.size := by omega
    clear hg1 hc1 hf1
    go_wp2_with fail
    go_ret
    exact ⟨rfl, by go_grown⟩
  · obtain rfl : r = false := by rw [← hr]; simp [he]
    have hst : (s == t) = false := by simp [he]
    clear h h' hr he
    go_enter Try.func39, Try.ntmps39
    go_wp2_with fail
    go_ret
    exact ⟨rfl, by go_grown⟩

end Go.Proofs.Ytkejcdephnkkgaa.FrCalls
