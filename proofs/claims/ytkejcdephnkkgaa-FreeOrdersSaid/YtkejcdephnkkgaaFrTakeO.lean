/- Free lists: Take, whose numbers are of its own making. Written by FrTake.gen.py. -/
import Derived.Test.YtkejcdephnkkgaaFrOwn
import Derived.Deep.RegionHeld3
namespace Go.Proofs.Ytkejcdephnkkgaa.FrTakeO
open Go.RowKit Rw Fe Fr FrRead FrAdd FrOpen FrBuild FrCalls FrTake FrOut FrOwn Own
set_option linter.unusedVariables false
set_option linter.unusedSimpArgs false

def TakeQ (w : World) (s : Int) (n k : Nat) (l : List Int) (e : Ending) (w' : World) : Prop :=
  ∃ (A1 A2 : Option Addr) (c1 c2 : Nat), e = .returned (.tuple #[.slice A1 k c1, frV s A2 (n - k) c2, num 0]) ∧ Sl w' w'.heap.size A1 k c1 (l.take k) ∧ Sl w' w'.heap.size A2 (n - k) c2 (l.drop k) ∧ New w.heap.size A1 k ∧ New w.heap.size A2 (n - k) ∧ w'.ownsRow 0 3 1 (.slice A1 k c1) k (rowI (l.take k)) ∧ Below w.heap.size w w'

set_option maxRecDepth 100000 in
set_option maxHeartbeats 4000000 in
theorem take_part (s : Int) (A : Option Addr) (n c k : Nat) (l : List Int) (w : World) (hs : Sl w w.heap.size A n c l) (hk : Ok s l) (h1 : 1 ≤ k) (h2 : k ≤ n) (hck : ¬ c = k) (hn : n ≤ 100000) :
    Calls Try.prog 33 #[frV s A n c, num k] w (TakeQ w s n k l) := by
  have hb0 : Below w.heap.size w w := Below.refl _ _
  have HS := Lib.hid hs
  have HK := Lib.hid hk
  obtain ⟨ad, rfl, _⟩ := hs.el (k := 0) (by omega)
  have hnc := hs.le
  have hcm := max63 hs.max
  clear hs hk
  unfold TakeQ
  go_enter Try.func33, Try.ntmps33
  go_wp2_with fail
  refine (read_ok s (some ad) n c l _ ((HS.out.below (by go_grown)).more (by go_size)) HK.out).mono ?_
  rintro eE W1 ⟨b, m, rfl, hbb, hbits, hm1, hm2, hg1⟩
  clear hbits
  have hb1 : Below w.heap.size w W1 := (show Below w.heap.size w _ by go_grown).trans (hg1.mono (by first | omega | go_size))
  obtain ⟨hc1, hf1⟩ := bcell hg1
  have hs1 := hg1.size
  try simp only [World.size_alloc, World.size_setCell, World.size_drew] at hs1
  have hl1_0_0 : W1.cell? ⟨w.heap.size, 0, none⟩ = some (num s) := (hc1 _ _ (by first | omega | go_size)).trans (by first | (with_reducible assumption) | go_cell)
  have hz1_0_0 : W1.frozen? ⟨w.heap.size, 0, none⟩ = false := (hf1 _ _ (by first | omega | go_size)).trans (by first | (with_reducible assumption) | (go_simp; done) | (simp [*]; done))
  have hl1_0_1 : W1.cell? ⟨w.heap.size, 1, none⟩ = some (.slice (some ad) n c) := (hc1 _ _ (by first | omega | go_size)).trans (by first | (with_reducible assumption) | go_cell)
  have hz1_0_1 : W1.frozen? ⟨w.heap.size, 1, none⟩ = false := (hf1 _ _ (by first | omega | go_size)).trans (by first | (with_reducible assumption) | (go_simp; done) | (simp [*]; done))
  have hk1_0 : w.heap.size < W1.heap.size := by omega
  have hl1_1_0 : W1.cell? ⟨w.heap.size + 1, 0, none⟩ = some (num 0) := (hc1 _ _ (by first | omega | go_size)).trans (by first | (with_reducible assumption) | go_cell)
  have hz1_1_0 : W1.frozen? ⟨w.heap.size + 1, 0, none⟩ = false := (hf1 _ _ (by first | omega | go_size)).trans (by first | (with_reducible assumption) | (go_simp; done) | (simp [*]; done))
  have hl1_1_1 : W1.cell? ⟨w.heap.size + 1, 1, none⟩ = some (.slice none 0 0) := (hc1 _ _ (by first | omega | go_size)).trans (by first | (with_reducible assumption) | go_cell)
  have hz1_1_1 : W1.frozen? ⟨w.heap.size + 1, 1, none⟩ = false := (hf1 _ _ (by first | omega | go_size)).trans (by first | (with_reducible assumption) | (go_simp; done) | (simp [*]; done))
  have hk1_1 : w.heap.size + 1 < W1.heap.size := by omega
  clear hg1 hc1 hf1
  go_wp2_with fail
  have hV : Below w.heap.size w (W1.alloc (.cells #[.slice (some ad) n c, .slice (some ⟨b, 0, none⟩) m m] 93)) := by go_grown
  have sV : W1.heap.size < (W1.alloc (.cells #[.slice (some ad) n c, .slice (some ⟨b, 0, none⟩) m m] 93)).heap.size := by simp
  have v0 : (W1.alloc (.cells #[.slice (some ad) n c, .slice (some ⟨b, 0, none⟩) m m] 93)).cell? ⟨w.heap.size, 0, none⟩ = some (num s) := by go_cell
  have v1 : (W1.alloc (.cells #[.slice (some ad) n c, .slice (some ⟨b, 0, none⟩) m m] 93)).cell? ⟨w.heap.size + 1, 0, none⟩ = some (num 0) := by go_cell
  have v2 : (W1.alloc (.cells #[.slice (some ad) n c, .slice (some ⟨b, 0, none⟩) m m] 93)).cell? ⟨w.heap.size + 1, 1, none⟩ = some (.slice none 0 0) := by go_cell
  have v3 : (W1.alloc (.cells #[.slice (some ad) n c, .slice (some ⟨b, 0, none⟩) m m] 93)).cell? ⟨W1.heap.size, 0, none⟩ = some (.slice (some ad) n c) := by go_cell
  have y1 : (W1.alloc (.cells #[.slice (some ad) n c, .slice (some ⟨b, 0, none⟩) m m] 93)).frozen? ⟨w.heap.size + 1, 0, none⟩ = false := (World.frozen?_of_block (heap_alloc_old _ _ hk1_1)).trans hz1_1_0
  have y2 : (W1.alloc (.cells #[.slice (some ad) n c, .slice (some ⟨b, 0, none⟩) m m] 93)).frozen? ⟨w.heap.size + 1, 1, none⟩ = false := (World.frozen?_of_block (heap_alloc_old _ _ hk1_1)).trans hz1_1_1
  generalize W1.alloc (.cells #[.slice (some ad) n c, .slice (some ⟨b, 0, none⟩) m m] 93) = V at hV sV v0 v1 v2 v3 y1 y2 ⊢
  obtain ⟨b7, hb7⟩ : ∃ b7, W1.heap.size = b7 := ⟨_, rfl⟩
  rw [hb7] at sV v3 ⊢
  have hb57 : w.heap.size + 1 < b7 := by omega
  have hbn1 : ¬ b7 = w.heap.size + 1 := by omega
  have hbn2 : ¬ w.heap.size + 1 = b7 := by omega
  have hi1 : (0 : Int) ≤ (k : Int) := by omega
  have hi2 : (k : Int) ≤ (n : Int) := by omega
  have hi3 : (k : Int) ≤ (c : Int) := by omega
  have hi4 : k ≤ c := by omega
  clear hb1 hs1 hl1_0_0 hz1_0_0 hl1_0_1 hz1_0_1 hk1_0 hl1_1_0 hz1_1_0 hl1_1_1 hz1_1_1 hk1_1 hbb hb7
  have zV := hV.size
  have HS1 := Lib.hid (show ∀ U, Below w.heap.size w U → Sl U U.heap.size (some ad) k c (l.take k) from fun U hU => (HS.out.on (Nat.le_refl _) hU).take (by omega))
  have HS2 := Lib.hid (show ∀ U, Below w.heap.size w U → Sl U U.heap.size (some (ad.add k)) (n - k) (c - k) (l.drop k) from fun U hU => by
    have := (HS.out.on (Nat.le_refl _) hU).drop (m := k) (by omega)
    rw [if_neg hck] at this
    exact this)
  go_region_held3 (fun w' => w'.cell? ⟨w.heap.size, 0, none⟩ = some (num s) ∧ w'.cell? ⟨b7, 0, none⟩ = some (.slice (some ad) n c))
    (first | exact ⟨e10, e13⟩ | exact ⟨e20, e23⟩ | go_keep)
    (first
      | (go_at_call 60; (with_reducible refine (left_own (some ad) k c (l.take k) _ (HS1.out _ (by go_grown)) (by omega) (by omega)).mono ?_); rintro eE X1 ⟨C1, d1, rfl, hS1, hN1, hO1, hg1⟩; have zz1 := hg1.size; (try simp only [World.size_alloc, World.size_setCell, World.size_drew] at zz1); have hB1 : Below w.heap.size w X1 := (show Below w.heap.size w _ by go_grown).trans (hg1.mono (by first | omega | go_size)); have e10 : X1.cell? ⟨w.heap.size, 0, none⟩ = some (num s) := (hg1.cell (p := ⟨w.heap.size, 0, none⟩) (by first | omega | go_size)).trans (by first | (with_reducible assumption) | go_cell); have e13 : X1.cell? ⟨b7, 0, none⟩ = some (.slice (some ad) n c) := (hg1.cell (p := ⟨b7, 0, none⟩) (by first | omega | go_size)).trans (by first | (with_reducible assumption) | go_cell); (first | (have e11 : X1.cell? ⟨w.heap.size + 1, 0, none⟩ = some (num 0) := (hg1.cell (p := ⟨w.heap.size + 1, 0, none⟩) (by first | omega | go_size)).trans (by first | (with_reducible assumption) | go_cell); have e12 : X1.cell? ⟨w.heap.size + 1, 1, none⟩ = some (.slice none 0 0) := (hg1.cell (p := ⟨w.heap.size + 1, 1, none⟩) (by first | omega | go_size)).trans (by first | (with_reducible assumption) | go_cell)) | (have e11 : X1.cell? ⟨w.heap.size + 1, 0, none⟩ = some (num s) := (hg1.cell (p := ⟨w.heap.size + 1, 0, none⟩) (by first | omega | go_size)).trans (by first | (with_reducible assumption) | go_cell); have e12 : X1.cell? ⟨w.heap.size + 1, 1, none⟩ = some (.slice C2 (n - k) d2) := (hg1.cell (p := ⟨w.heap.size + 1, 1, none⟩) (by first | omega | go_size)).trans (by first | (with_reducible assumption) | go_cell))); have f11 : X1.frozen? ⟨w.heap.size + 1, 0, none⟩ = false := (hg1.frozen (p := ⟨w.heap.size + 1, 0, none⟩) (by first | omega | go_size)).trans (by first | (with_reducible assumption) | (go_simp; done) | (simp [*]; done)); have f12 : X1.frozen? ⟨w.heap.size + 1, 1, none⟩ = false := (hg1.frozen (p := ⟨w.heap.size + 1, 1, none⟩) (by first | omega | go_size)).trans (by first | (with_reducible assumption) | (go_simp; done) | (simp [*]; done)))
      | (go_at_call 60; (with_reducible refine (rebuilt_right (some (ad.add k)) (n - k) (c - k) (l.drop k) _ (HS2.out _ (by go_grown)) (by omega)).mono ?_); rintro eE X2 ⟨C2, d2, rfl, hS2, hN2, hg2⟩; have zz2 := hg2.size; (try simp only [World.size_alloc, World.size_setCell, World.size_drew] at zz2); have hB2 : Below w.heap.size w X2 := (show Below w.heap.size w _ by go_grown).trans (hg2.mono (by first | omega | go_size)); have e20 : X2.cell? ⟨w.heap.size, 0, none⟩ = some (num s) := (hg2.cell (p := ⟨w.heap.size, 0, none⟩) (by first | omega | go_size)).trans (by first | (with_reducible assumption) | go_cell); have e23 : X2.cell? ⟨b7, 0, none⟩ = some (.slice (some ad) n c) := (hg2.cell (p := ⟨b7, 0, none⟩) (by first | omega | go_size)).trans (by first | (with_reducible assumption) | go_cell); (have e21 : X2.cell? ⟨w.heap.size + 1, 0, none⟩ = some (num 0) := (hg2.cell (p := ⟨w.heap.size + 1, 0, none⟩) (by first | omega | go_size)).trans (by first | (with_reducible assumption) | go_cell); have e22 : X2.cell? ⟨w.heap.size + 1, 1, none⟩ = some (.slice none 0 0) := (hg2.cell (p := ⟨w.heap.size + 1, 1, none⟩) (by first | omega | go_size)).trans (by first | (with_reducible assumption) | go_cell)); have f21 : X2.frozen? ⟨w.heap.size + 1, 0, none⟩ = false := (hg2.frozen (p := ⟨w.heap.size + 1, 0, none⟩) (by first | omega | go_size)).trans (by first | (with_reducible assumption) | (go_simp; done) | (simp [*]; done)); have f22 : X2.frozen? ⟨w.heap.size + 1, 1, none⟩ = false := (hg2.frozen (p := ⟨w.heap.size + 1, 1, none⟩) (by first | omega | go_size)).trans (by first | (with_reducible assumption) | (go_simp; done) | (simp [*]; done))))
  all_goals (go_wp2_with fail)
  all_goals
    refine Lib.bodyPost_here2 (w.heap.size + 1) (num s) (.slice C2 (n - k) d2) (.tuple #[.slice C1 k d1, frV s C2 (n - k) d2, num 0]) ?_ ?_ rfl ?_ ?_
    · first | (with_reducible assumption) | go_cell | (go_simp; done) | (simp [*]; done)
    · first | (with_reducible assumption) | go_cell | (go_simp; done) | (simp [*]; done)
    · intro WG qr0 qr1
      simp [results, Try.results33, go_sem, qr0, qr1]
    refine ⟨C1, C2, d1, d2, rfl, ?_, ?_, (fun ad e h => by have := hN1 ad e h; (try simp only [World.size_drew, World.size_setCell] at this); omega), (fun ad e h => by have := hN2 ad e h; (try simp only [World.size_drew, World.size_setCell] at this); omega), own_keep hO1 (fun g h1 h2 => by have hh : b7 ≤ g := (by (try simp only [World.size_drew, World.size_setCell] at h1); omega); first | rfl | (rw [Go.Deep.blk_setCell_other _ _ _ _ (by simp; omega), Go.Deep.blk_setCell_other _ _ _ _ (by simp; omega)]; done) | (rw [Go.Deep.blk_setCell_other _ _ _ _ (by simp; omega), Go.Deep.blk_setCell_other _ _ _ _ (by simp; omega)]; exact hg2.block g h2)), by go_grown⟩
    · first
        | exact hS1
        | exact hS1.keep (base := b7) (fun ad e h => by have := hN1 ad e h; (try simp only [World.size_drew, World.size_setCell] at this); omega) (fun p h1 h2 => by first | (rw [World.cell?_setCell_other _ _ _ _ (by rintro rfl; simp at h1; omega), World.cell?_setCell_other _ _ _ _ (by rintro rfl; simp at h1; omega)]; done) | (rw [World.cell?_setCell_other _ _ _ _ (by rintro rfl; simp at h1; omega), World.cell?_setCell_other _ _ _ _ (by rintro rfl; simp at h1; omega)]; exact hg2.cell h2)) (by simp; try omega)
    · first
        | exact hS2.keep (base := b7) (fun ad e h => by have := hN2 ad e h; (try simp only [World.size_drew, World.size_setCell] at this); omega) (fun p h1 h2 => by first | (rw [World.cell?_setCell_other _ _ _ _ (by rintro rfl; simp at h1; omega), World.cell?_setCell_other _ _ _ _ (by rintro rfl; simp at h1; omega)]; done) | (rw [World.cell?_setCell_other _ _ _ _ (by rintro rfl; simp at h1; omega), World.cell?_setCell_other _ _ _ _ (by rintro rfl; simp at h1; omega)]; exact hg1.cell h2)) (by simp; try omega)
        | exact hS2.keep (base := b7) (fun ad e h => by have := hN2 ad e h; (try simp only [World.size_drew, World.size_setCell] at this); omega) (fun p h1 h2 => (hg1.cell (by simp; exact h2)).trans (by rw [World.cell?_setCell_other _ _ _ _ (by rintro rfl; simp at h1; omega), World.cell?_setCell_other _ _ _ _ (by rintro rfl; simp at h1; omega)])) (by omega)

set_option maxRecDepth 100000 in
set_option maxHeartbeats 4000000 in
theorem take_full (s : Int) (A : Option Addr) (n : Nat) (l : List Int) (w : World) (hs : Sl w w.heap.size A n n l) (hk : Ok s l) (h1 : 1 ≤ n) (hn : n ≤ 100000) :
    Calls Try.prog 33 #[frV s A n n, num n] w (TakeQ w s n n l) := by
  have hb0 : Below w.heap.size w w := Below.refl _ _
  have HS := Lib.hid hs
  have HK := Lib.hid hk
  obtain ⟨ad, rfl, _⟩ := hs.el (k := 0) (by omega)
  have hnc := hs.le
  have hcm := max63 hs.max
  clear hs hk
  unfold TakeQ
  rw [Nat.sub_self]
  go_enter Try.func33, Try.ntmps33
  go_wp2_with fail
  refine (read_ok s (some ad) n n l _ ((HS.out.below (by go_grown)).more (by go_size)) HK.out).mono ?_
  rintro eE W1 ⟨b, m, rfl, hbb, hbits, hm1, hm2, hg1⟩
  clear hbits
  have hb1 : Below w.heap.size w W1 := (show Below w.heap.size w _ by go_grown).trans (hg1.mono (by first | omega | go_size))
  obtain ⟨hc1, hf1⟩ := bcell hg1
  have hs1 := hg1.size
  try simp only [World.size_alloc, World.size_setCell, World.size_drew] at hs1
  have hl1_0_0 : W1.cell? ⟨w.heap.size, 0, none⟩ = some (num s) := (hc1 _ _ (by first | omega | go_size)).trans (by first | (with_reducible assumption) | go_cell)
  have hz1_0_0 : W1.frozen? ⟨w.heap.size, 0, none⟩ = false := (hf1 _ _ (by first | omega | go_size)).trans (by first | (with_reducible assumption) | (go_simp; done) | (simp [*]; done))
  have hl1_0_1 : W1.cell? ⟨w.heap.size, 1, none⟩ = some (.slice (some ad) n n) := (hc1 _ _ (by first | omega | go_size)).trans (by first | (with_reducible assumption) | go_cell)
  have hz1_0_1 : W1.frozen? ⟨w.heap.size, 1, none⟩ = false := (hf1 _ _ (by first | omega | go_size)).trans (by first | (with_reducible assumption) | (go_simp; done) | (simp [*]; done))
  have hk1_0 : w.heap.size < W1.heap.size := by omega
  have hl1_1_0 : W1.cell? ⟨w.heap.size + 1, 0, none⟩ = some (num 0) := (hc1 _ _ (by first | omega | go_size)).trans (by first | (with_reducible assumption) | go_cell)
  have hz1_1_0 : W1.frozen? ⟨w.heap.size + 1, 0, none⟩ = false := (hf1 _ _ (by first | omega | go_size)).trans (by first | (with_reducible assumption) | (go_simp; done) | (simp [*]; done))
  have hl1_1_1 : W1.cell? ⟨w.heap.size + 1, 1, none⟩ = some (.slice none 0 0) := (hc1 _ _ (by first | omega | go_size)).trans (by first | (with_reducible assumption) | go_cell)
  have hz1_1_1 : W1.frozen? ⟨w.heap.size + 1, 1, none⟩ = false := (hf1 _ _ (by first | omega | go_size)).trans (by first | (with_reducible assumption) | (go_simp; done) | (simp [*]; done))
  have hk1_1 : w.heap.size + 1 < W1.heap.size := by omega
  clear hg1 hc1 hf1
  go_wp2_with fail
  have hV : Below w.heap.size w (W1.alloc (.cells #[.slice (some ad) n n, .slice (some ⟨b, 0, none⟩) m m] 93)) := by go_grown
  have sV : W1.heap.size < (W1.alloc (.cells #[.slice (some ad) n n, .slice (some ⟨b, 0, none⟩) m m] 93)).heap.size := by simp
  have v0 : (W1.alloc (.cells #[.slice (some ad) n n, .slice (some ⟨b, 0, none⟩) m m] 93)).cell? ⟨w.heap.size, 0, none⟩ = some (num s) := by go_cell
  have v1 : (W1.alloc (.cells #[.slice (some ad) n n, .slice (some ⟨b, 0, none⟩) m m] 93)).cell? ⟨w.heap.size + 1, 0, none⟩ = some (num 0) := by go_cell
  have v2 : (W1.alloc (.cells #[.slice (some ad) n n, .slice (some ⟨b, 0, none⟩) m m] 93)).cell? ⟨w.heap.size + 1, 1, none⟩ = some (.slice none 0 0) := by go_cell
  have v3 : (W1.alloc (.cells #[.slice (some ad) n n, .slice (some ⟨b, 0, none⟩) m m] 93)).cell? ⟨W1.heap.size, 0, none⟩ = some (.slice (some ad) n n) := by go_cell
  have y1 : (W1.alloc (.cells #[.slice (some ad) n n, .slice (some ⟨b, 0, none⟩) m m] 93)).frozen? ⟨w.heap.size + 1, 0, none⟩ = false := (World.frozen?_of_block (heap_alloc_old _ _ hk1_1)).trans hz1_1_0
  have y2 : (W1.alloc (.cells #[.slice (some ad) n n, .slice (some ⟨b, 0, none⟩) m m] 93)).frozen? ⟨w.heap.size + 1, 1, none⟩ = false := (World.frozen?_of_block (heap_alloc_old _ _ hk1_1)).trans hz1_1_1
  generalize W1.alloc (.cells #[.slice (some ad) n n, .slice (some ⟨b, 0, none⟩) m m] 93) = V at hV sV v0 v1 v2 v3 y1 y2 ⊢
  obtain ⟨b7, hb7⟩ : ∃ b7, W1.heap.size = b7 := ⟨_, rfl⟩
  rw [hb7] at sV v3 ⊢
  have hb57 : w.heap.size + 1 < b7 := by omega
  have hbn1 : ¬ b7 = w.heap.size + 1 := by omega
  have hbn2 : ¬ w.heap.size + 1 = b7 := by omega
  have hi1 : (0 : Int) ≤ (n : Int) := by omega
  have hi2 : (n : Int) ≤ (n : Int) := by omega
  have hi3 : (n : Int) ≤ (n : Int) := by omega
  have hi4 : n ≤ n := by omega
  clear hb1 hs1 hl1_0_0 hz1_0_0 hl1_0_1 hz1_0_1 hk1_0 hl1_1_0 hz1_1_0 hl1_1_1 hz1_1_1 hk1_1 hbb hb7
  have zV := hV.size
  have HS1 := Lib.hid (show ∀ U, Below w.heap.size w U → Sl U U.heap.size (some ad) n n (l.take n) from fun U hU => (HS.out.on (Nat.le_refl _) hU).take (by omega))
  have HS2 := Lib.hid (show ∀ U, Below w.heap.size w U → Sl U U.heap.size (some ad) 0 0 (l.drop n) from fun U hU => by
    have := (HS.out.on (Nat.le_refl _) hU).drop (m := n) (by omega)
    rw [if_pos rfl] at this
    rw [Nat.sub_self] at this
    exact this)
  go_region_held3 (fun w' => w'.cell? ⟨w.heap.size, 0, none⟩ = some (num s) ∧ w'.cell? ⟨b7, 0, none⟩ = some (.slice (some ad) n n))
    (first | exact ⟨e10, e13⟩ | exact ⟨e20, e23⟩ | go_keep)
    (first
      | (go_at_call 60; (with_reducible refine (left_own (some ad) n n (l.take n) _ (HS1.out _ (by go_grown)) (by omega) (by omega)).mono ?_); rintro eE X1 ⟨C1, d1, rfl, hS1, hN1, hO1, hg1⟩; have zz1 := hg1.size; (try simp only [World.size_alloc, World.size_setCell, World.size_drew] at zz1); have hB1 : Below w.heap.size w X1 := (show Below w.heap.size w _ by go_grown).trans (hg1.mono (by first | omega | go_size)); have e10 : X1.cell? ⟨w.heap.size, 0, none⟩ = some (num s) := (hg1.cell (p := ⟨w.heap.size, 0, none⟩) (by first | omega | go_size)).trans (by first | (with_reducible assumption) | go_cell); have e13 : X1.cell? ⟨b7, 0, none⟩ = some (.slice (some ad) n n) := (hg1.cell (p := ⟨b7, 0, none⟩) (by first | omega | go_size)).trans (by first | (with_reducible assumption) | go_cell); (first | (have e11 : X1.cell? ⟨w.heap.size + 1, 0, none⟩ = some (num 0) := (hg1.cell (p := ⟨w.heap.size + 1, 0, none⟩) (by first | omega | go_size)).trans (by first | (with_reducible assumption) | go_cell); have e12 : X1.cell? ⟨w.heap.size + 1, 1, none⟩ = some (.slice none 0 0) := (hg1.cell (p := ⟨w.heap.size + 1, 1, none⟩) (by first | omega | go_size)).trans (by first | (with_reducible assumption) | go_cell)) | (have e11 : X1.cell? ⟨w.heap.size + 1, 0, none⟩ = some (num s) := (hg1.cell (p := ⟨w.heap.size + 1, 0, none⟩) (by first | omega | go_size)).trans (by first | (with_reducible assumption) | go_cell); have e12 : X1.cell? ⟨w.heap.size + 1, 1, none⟩ = some (.slice C2 0 d2) := (hg1.cell (p := ⟨w.heap.size + 1, 1, none⟩) (by first | omega | go_size)).trans (by first | (with_reducible assumption) | go_cell))); have f11 : X1.frozen? ⟨w.heap.size + 1, 0, none⟩ = false := (hg1.frozen (p := ⟨w.heap.size + 1, 0, none⟩) (by first | omega | go_size)).trans (by first | (with_reducible assumption) | (go_simp; done) | (simp [*]; done)); have f12 : X1.frozen? ⟨w.heap.size + 1, 1, none⟩ = false := (hg1.frozen (p := ⟨w.heap.size + 1, 1, none⟩) (by first | omega | go_size)).trans (by first | (with_reducible assumption) | (go_simp; done) | (simp [*]; done)))
      | (go_at_call 60; (with_reducible refine (rebuilt_right (some ad) 0 0 (l.drop n) _ (HS2.out _ (by go_grown)) (by omega)).mono ?_); rintro eE X2 ⟨C2, d2, rfl, hS2, hN2, hg2⟩; have zz2 := hg2.size; (try simp only [World.size_alloc, World.size_setCell, World.size_drew] at zz2); have hB2 : Below w.heap.size w X2 := (show Below w.heap.size w _ by go_grown).trans (hg2.mono (by first | omega | go_size)); have e20 : X2.cell? ⟨w.heap.size, 0, none⟩ = some (num s) := (hg2.cell (p := ⟨w.heap.size, 0, none⟩) (by first | omega | go_size)).trans (by first | (with_reducible assumption) | go_cell); have e23 : X2.cell? ⟨b7, 0, none⟩ = some (.slice (some ad) n n) := (hg2.cell (p := ⟨b7, 0, none⟩) (by first | omega | go_size)).trans (by first | (with_reducible assumption) | go_cell); (have e21 : X2.cell? ⟨w.heap.size + 1, 0, none⟩ = some (num 0) := (hg2.cell (p := ⟨w.heap.size + 1, 0, none⟩) (by first | omega | go_size)).trans (by first | (with_reducible assumption) | go_cell); have e22 : X2.cell? ⟨w.heap.size + 1, 1, none⟩ = some (.slice none 0 0) := (hg2.cell (p := ⟨w.heap.size + 1, 1, none⟩) (by first | omega | go_size)).trans (by first | (with_reducible assumption) | go_cell)); have f21 : X2.frozen? ⟨w.heap.size + 1, 0, none⟩ = false := (hg2.frozen (p := ⟨w.heap.size + 1, 0, none⟩) (by first | omega | go_size)).trans (by first | (with_reducible assumption) | (go_simp; done) | (simp [*]; done)); have f22 : X2.frozen? ⟨w.heap.size + 1, 1, none⟩ = false := (hg2.frozen (p := ⟨w.heap.size + 1, 1, none⟩) (by first | omega | go_size)).trans (by first | (with_reducible assumption) | (go_simp; done) | (simp [*]; done))))
  all_goals (go_wp2_with fail)
  all_goals
    refine Lib.bodyPost_here2 (w.heap.size + 1) (num s) (.slice C2 0 d2) (.tuple #[.slice C1 n d1, frV s C2 0 d2, num 0]) ?_ ?_ rfl ?_ ?_
    · first | (with_reducible assumption) | go_cell | (go_simp; done) | (simp [*]; done)
    · first | (with_reducible assumption) | go_cell | (go_simp; done) | (simp [*]; done)
    · intro WG qr0 qr1
      simp [results, Try.results33, go_sem, qr0, qr1]
    refine ⟨C1, C2, d1, d2, rfl, ?_, ?_, (fun ad e h => by have := hN1 ad e h; (try simp only [World.size_drew, World.size_setCell] at this); omega), (fun ad e h => by have := hN2 ad e h; (try simp only [World.size_drew, World.size_setCell] at this); omega), own_keep hO1 (fun g h1 h2 => by have hh : b7 ≤ g := (by (try simp only [World.size_drew, World.size_setCell] at h1); omega); first | rfl | (rw [Go.Deep.blk_setCell_other _ _ _ _ (by simp; omega), Go.Deep.blk_setCell_other _ _ _ _ (by simp; omega)]; done) | (rw [Go.Deep.blk_setCell_other _ _ _ _ (by simp; omega), Go.Deep.blk_setCell_other _ _ _ _ (by simp; omega)]; exact hg2.block g h2)), by go_grown⟩
    · first
        | exact hS1
        | exact hS1.keep (base := b7) (fun ad e h => by have := hN1 ad e h; (try simp only [World.size_drew, World.size_setCell] at this); omega) (fun p h1 h2 => by first | (rw [World.cell?_setCell_other _ _ _ _ (by rintro rfl; simp at h1; omega), World.cell?_setCell_other _ _ _ _ (by rintro rfl; simp at h1; omega)]; done) | (rw [World.cell?_setCell_other _ _ _ _ (by rintro rfl; simp at h1; omega), World.cell?_setCell_other _ _ _ _ (by rintro rfl; simp at h1; omega)]; exact hg2.cell h2)) (by simp; try omega)
    · first
        | exact hS2.keep (base := b7) (fun ad e h => by have := hN2 ad e h; (try simp only [World.size_drew, World.size_setCell] at this); omega) (fun p h1 h2 => by first | (rw [World.cell?_setCell_other _ _ _ _ (by rintro rfl; simp at h1; omega), World.cell?_setCell_other _ _ _ _ (by rintro rfl; simp at h1; omega)]; done) | (rw [World.cell?_setCell_other _ _ _ _ (by rintro rfl; simp at h1; omega), World.cell?_setCell_other _ _ _ _ (by rintro rfl; simp at h1; omega)]; exact hg1.cell h2)) (by simp; try omega)
        | exact hS2.keep (base := b7) (fun ad e h => by have := hN2 ad e h; (try simp only [World.size_drew, World.size_setCell] at this); omega) (fun p h1 h2 => (hg1.cell (by simp; exact h2)).trans (by rw [World.cell?_setCell_other _ _ _ _ (by rintro rfl; simp at h1; omega), World.cell?_setCell_other _ _ _ _ (by rintro rfl; simp at h1; omega)])) (by omega)

theorem take_own (s : Int) (A : Option Addr) (n c k : Nat) (l : List Int) (w : World) (hs : Sl w w.heap.size A n c l) (hk : Ok s l) (h1 : 1 ≤ k) (h2 : k ≤ n) (hn : n ≤ 100000) :
    Calls Try.prog 33 #[frV s A n c, num k] w (TakeQ w s n k l) := by
  by_cases hck : c = k
  · have hle := hs.le
    obtain rfl : c = n := by omega
    obtain rfl : c = k := hck
    exact take_full s A c l w hs hk h1 hn
  · exact take_part s A n c k l w hs hk h1 h2 hck hn

end Go.Proofs.Ytkejcdephnkkgaa.FrTakeO
