
/- Place of rings. -/
import Derived.Test.YtkncaafjkoeijaaLay4
namespace Go.Proofs.Ytkncaafjkoeijaa.Lay
open Go.RowKit Ser
set_option linter.unusedVariables false
set_option linter.unusedSimpArgs false

abbrev PlaceT := Bool × Int × Int × Int × Int × Int × Int
def noPlace : PlaceT := (false, 0, 0, 0, 0, 0, 2)
def place3 (p : Bool) (n b d v y z : Int) : PlaceT :=
  if (alignR (w64 (v + y)) 4).2 = 0 then
    (if w64 (w64 ((alignR (w64 (v + y)) 4).1 + z) - 1) < b then noPlace else (p, n, d, v, (alignR (w64 (v + y)) 4).1, w64 (w64 ((alignR (w64 (v + y)) 4).1 + z) - b), 0))
  else noPlace
def place2 (p : Bool) (n b d x y t z : Int) : PlaceT :=
  if (alignR (w64 (d + x)) t).2 = 0 then place3 p n b d (alignR (w64 (d + x)) t).1 y z else noPlace
def place1 (p : Bool) (n b x y t z : Int) : PlaceT := if (alignR b 16).2 = 0 then place2 p n b (alignR b 16).1 x y t z else noPlace
def placeI (p : Bool) (n b : Int) : PlaceT := if sizeB p n = true then place1 p n b (partsI p n).1 (partsI p n).2.1 (toI p) (partsI p n).2.2 else noPlace

theorem alignR_two (n t : Int) : (alignR n t).2 = 0 ∨ alignR n t = (0, 2) := by
  unfold alignR
  split
  · left; rfl
  · split
    · left; rfl
    · right; rfl
theorem w64_in (x : Int) : u64in (w64 x) := by unfold u64in w64; rw [IntKind.wrap_u64]; omega
theorem alignR_in {n t a e : Int} (hn : u64in n) (ht : 1 ≤ t) (h : alignR n t = (a, e)) : u64in a := by
  rcases alignR_cases n t hn ht with ⟨a', h', h1⟩ | ⟨h', h1⟩
  · rw [h'] at h; cases h; exact h1.2.2.2
  · rw [h'] at h; cases h; exact ⟨by decide, by decide⟩
theorem s_align_g (n t a e : Int) (hn : u64in n) (hP : P2 t) (h : alignR n t = (a, e)) (w : World) : Calls Try.prog 117 #[u64 n, u64 t] w (Gives w.heap.size w (.tuple #[u64 a, num e])) :=
  (s_align_is n t a e hn hP h w).mono fun _ _ h => ⟨h.1, h.2 ▸ Below.refl _ _⟩
theorem p2_16 : P2 16 := p2_of 4 (by decide)
theorem p2_4 : P2 4 := p2_of 2 (by decide)
theorem p2_2 : P2 2 := p2_of 1 (by decide)

set_option maxRecDepth 100000 in
set_option maxHeartbeats 8000000 in
theorem place_is (p : Bool) (n b : Int) (r : PlaceT) (hb : u64in b) (h : placeI p n b = r) (w : World) :
    Calls Try.prog 71 #[.bool p, num n, u64 b] w (Gives w.heap.size w (.tuple #[ringV r.1 r.2.1 r.2.2.1 r.2.2.2.1 r.2.2.2.2.1, u64 r.2.2.2.2.2.1, num r.2.2.2.2.2.2])) := by
  unfold Gives
  have hb0 : Below w.heap.size w w := Below.refl _ _
  cases hs : sizeB p n with
  | false =>
    obtain rfl : r = noPlace := by rw [← h]; unfold placeI; rw [hs]; rfl
    have HS := Lib.hid hs
    clear h hs
    go_enter Try.func71, Try.ntmps71
    go_wp2_with fail
    refine (size_is p false n 0 0 0 HS.out _).mono ?_
    rintro eE W1 ⟨rfl, hg1⟩
    have hb1 : Below w.heap.size w W1 := (show Below w.heap.size w _ by go_grown).trans (hg1.mono (by first | omega | go_size))
    obtain ⟨hc1, hf1⟩ := bcell hg1
    have hs1 := hg1.size
    try simp only [World.size_alloc, World.size_setCell, World.size_drew] at hs1
    have hl1_0_0 : W1.cell? ⟨w.heap.size, 0, none⟩ = some (.bool false) := (hc1 _ _ (by first | omega | go_size)).trans (by first | (with_reducible assumption) | go_cell)
    have hz1_0_0 : W1.frozen? ⟨w.heap.size, 0, none⟩ = false := (hf1 _ _ (by first | omega | go_size)).trans (by first | (with_reducible assumption) | (go_simp; done) | (simp [*]; done))
    have hl1_0_1 : W1.cell? ⟨w.heap.size, 1, none⟩ = some (num 0) := (hc1 _ _ (by first | omega | go_size)).trans (by first | (with_reducible assumption) | go_cell)
    have hz1_0_1 : W1.frozen? ⟨w.heap.size, 1, none⟩ = false := (hf1 _ _ (by first | omega | go_size)).trans (by first | (with_reducible assumption) | (go_simp; done) | (simp [*]; done))
    have hl1_0_2 : W1.cell? ⟨w.heap.size, 2, none⟩ = some (u64 0) := (hc1 _ _ (by first | omega | go_size)).trans (by first | (with_reducible assumption) | go_cell)
    have hz1_0_2 : W1.frozen? ⟨w.heap.size, 2, none⟩ = false := (hf1 _ _ (by first | omega | go_size)).trans (by first | (with_reducible assumption) | (go_simp; done) | (simp [*]; done))
    have hl1_0_3 : W1.cell? ⟨w.heap.size, 3, none⟩ = some (u64 0) := (hc1 _ _ (by first | omega | go_size)).trans (by first | (with_reducible assumption) | go_cell)
    have hz1_0_3 : W1.frozen? ⟨w.heap.size, 3, none⟩ = false := (hf1 _ _ (by first | omega | go_size)).trans (by first | (with_reducible assumption) | (go_simp; done) | (simp [*]; done))
    have hl1_0_4 : W1.cell? ⟨w.heap.size, 4, none⟩ = some (u64 0) := (hc1 _ _ (by first | omega | go_size)).trans (by first | (with_reducible assumption) | go_cell)
    have hz1_0_4 : W1.frozen? ⟨w.heap.size, 4, none⟩ = false := (hf1 _ _ (by first | omega | go_size)).trans (by first | (with_reducible assumption) | (go_simp; done) | (simp [*]; done))
    have hk1_0 : w.heap.size < W1.heap.size := by omega
    have hl1_1_0 : W1.cell? ⟨w.heap.size + 1, 0, none⟩ = some (.bool p) := (hc1 _ _ (by first | omega | go_size)).trans (by first | (with_reducible assumption) | go_cell)
    have hz1_1_0 : W1.frozen? ⟨w.heap.size + 1, 0, none⟩ = false := (hf1 _ _ (by first | omega | go_size)).trans (by first | (with_reducible assumption) | (go_simp; done) | (simp [*]; done))
    have hl1_1_1 : W1.cell? ⟨w.heap.size + 1, 1, none⟩ = some (num n) := (hc1 _ _ (by first | omega | go_size)).trans (by first | (with_reducible assumption) | go_cell)
    have hz1_1_1 : W1.frozen? ⟨w.heap.size + 1, 1, none⟩ = false := (hf1 _ _ (by first | omega | go_size)).trans (by first | (with_reducible assumption) | (go_simp; done) | (simp [*]; done))
    have hl1_1_2 : W1.cell? ⟨w.heap.size + 1, 2, none⟩ = some (u64 0) := (hc1 _ _ (by first | omega | go_size)).trans (by first | (with_reducible assumption) | go_cell)
    have hz1_1_2 : W1.frozen? ⟨w.heap.size + 1, 2, none⟩ = false := (hf1 _ _ (by first | omega | go_size)).trans (by first | (with_reducible assumption) | (go_simp; done) | (simp [*]; done))
    have hl1_1_3 : W1.cell? ⟨w.heap.size + 1, 3, none⟩ = some (u64 0) := (hc1 _ _ (by first | omega | go_size)).trans (by first | (with_reducible assumption) | go_cell)
    have hz1_1_3 : W1.frozen? ⟨w.heap.size + 1, 3, none⟩ = false := (hf1 _ _ (by first | omega | go_size)).trans (by first | (with_reducible assumption) | (go_simp; done) | (simp [*]; done))
    have hl1_1_4 : W1.cell? ⟨w.heap.size + 1, 4, none⟩ = some (u64 0) := (hc1 _ _ (by first | omega | go_size)).trans (by first | (with_reducible assumption) | go_cell)
    have hz1_1_4 : W1.frozen? ⟨w.heap.size + 1, 4, none⟩ = false := (hf1 _ _ (by first | omega | go_size)).trans (by first | (with_reducible assumption) | (go_simp; done) | (simp [*]; done))
    have hk1_1 : w.heap.size + 1 < W1.heap.size := by omega
    clear hg1 hc1 hf1
    go_wp2_with fail
    refine Lib.bodyPost_at5 (B := w.heap.size) (w := w) (w.heap.size) (.bool false) (num 0) (u64 0) (u64 0) (u64 0) (.tuple #[ringV false 0 0 0 0, u64 0, num 2]) ?_ ?_ ?_ ?_ ?_ ?_ rfl ?_ (fun WG hWG => ⟨rfl, hWG⟩)
    · first | (with_reducible assumption) | go_cell | (go_simp; done) | (simp [*]; done)
    · first | (with_reducible assumption) | go_cell | (go_simp; done) | (simp [*]; done)
    · first | (with_reducible assumption) | go_cell | (go_simp; done) | (simp [*]; done)
    · first | (with_reducible assumption) | go_cell | (go_simp; done) | (simp [*]; done)
    · first | (with_reducible assumption) | go_cell | (go_simp; done) | (simp [*]; done)
    · go_grown
    · intro WG qr0 qr1 qr2 qr3 qr4
      simp [results, Try.results71, go_sem, qr0, qr1, qr2, qr3, qr4]
  | true =>
  obtain ⟨x, y, z, hp⟩ : ∃ x y z, partsI p n = (x, y, z) := ⟨_, _, _, rfl⟩
  have hin := parts_in hs hp
  obtain ⟨t, ht⟩ : ∃ t, toI p = t := ⟨_, rfl⟩
  have hq : place1 p n b x y t z = r := by rw [← h]; unfold placeI; rw [hs, hp, ht]; rfl
  have hP : P2 t := by rw [← ht]; unfold toI; split; exact p2_4; exact p2_2
  have hpo := fun W => partsOf_is p n 0 0 0 x y z hp W
  rw [ht] at hpo
  have HO := Lib.hid hpo
  have HS := Lib.hid hs
  have HT := Lib.hid hP
  have HB := Lib.hid hb
  have ht1 : 1 ≤ t := hP.1
  have hb1 := hb
  unfold u64in at hb1
  have i0 := fun W => (index3 W 0 x 0 y t 0 z).1
  have i1 := fun W => (index3 W 0 x 0 y t 0 z).2.1
  have i2 := fun W => (index3 W 0 x 0 y t 0 z).2.2
  clear h hs hp ht hP hpo hb
  obtain ⟨d, f1, hd⟩ : ∃ d f, alignR b 16 = (d, f) := ⟨_, _, rfl⟩
  have F1 : f1 = 0 ∨ f1 = 2 := by rcases alignR_two b 16 with e | e <;> rw [hd] at e <;> simp at e <;> omega
  have hdi := alignR_in HB.out (by omega) hd
  unfold place1 at hq
  simp only [hd] at hq
  have HA1 := Lib.hid hd
  have HQ := Lib.hid hq
  clear hd hq
  go_enter Try.func71, Try.ntmps71
  go_wp2_with fail
  refine (size_is p true n 0 0 0 HS.out _).mono ?_
  rintro eE W1 ⟨rfl, hg1⟩
  have hb1 : Below w.heap.size w W1 := (show Below w.heap.size w _ by go_grown).trans (hg1.mono (by first | omega | go_size))
  obtain ⟨hc1, hf1⟩ := bcell hg1
  have hs1 := hg1.size
  try simp only [World.size_alloc, World.size_setCell, World.size_drew] at hs1
  have hl1_0_0 : W1.cell? ⟨w.heap.size, 0, none⟩ = some (.bool false) := (hc1 _ _ (by first | omega | go_size)).trans (by first | (with_reducible assumption) | go_cell)
  have hz1_0_0 : W1.frozen? ⟨w.heap.size, 0, none⟩ = false := (hf1 _ _ (by first | omega | go_size)).trans (by first | (with_reducible assumption) | (go_simp; done) | (simp [*]; done))
  have hl1_0_1 : W1.cell? ⟨w.heap.size, 1, none⟩ = some (num 0) := (hc1 _ _ (by first | omega | go_size)).trans (by first | (with_reducible assumption) | go_cell)
  have hz1_0_1 : W1.frozen? ⟨w.heap.size, 1, none⟩ = false := (hf1 _ _ (by first | omega | go_size)).trans (by first | (with_reducible assumption) | (go_simp; done) | (simp [*]; done))
  have hl1_0_2 : W1.cell? ⟨w.heap.size, 2, none⟩ = some (u64 0) := (hc1 _ _ (by first | omega | go_size)).trans (by first | (with_reducible assumption) | go_cell)
  have hz1_0_2 : W1.frozen? ⟨w.heap.size, 2, none⟩ = false := (hf1 _ _ (by first | omega | go_size)).trans (by first | (with_reducible assumption) | (go_simp; done) | (simp [*]; done))
  have hl1_0_3 : W1.cell? ⟨w.heap.size, 3, none⟩ = some (u64 0) := (hc1 _ _ (by first | omega | go_size)).trans (by first | (with_reducible assumption) | go_cell)
  have hz1_0_3 : W1.frozen? ⟨w.heap.size, 3, none⟩ = false := (hf1 _ _ (by first | omega | go_size)).trans (by first | (with_reducible assumption) | (go_simp; done) | (simp [*]; done))
  have hl1_0_4 : W1.cell? ⟨w.heap.size, 4, none⟩ = some (u64 0) := (hc1 _ _ (by first | omega | go_size)).trans (by first | (with_reducible assumption) | go_cell)
  have hz1_0_4 : W1.frozen? ⟨w.heap.size, 4, none⟩ = false := (hf1 _ _ (by first | omega | go_size)).trans (by first | (with_reducible assumption) | (go_simp; done) | (simp [*]; done))
  have hk1_0 : w.heap.size < W1.heap.size := by omega
  have hl1_1_0 : W1.cell? ⟨w.heap.size + 1, 0, none⟩ = some (.bool p) := (hc1 _ _ (by first | omega | go_size)).trans (by first | (with_reducible assumption) | go_cell)
  have hz1_1_0 : W1.frozen? ⟨w.heap.size + 1, 0, none⟩ = false := (hf1 _ _ (by first | omega | go_size)).trans (by first | (with_reducible assumption) | (go_simp; done) | (simp [*]; done))
  have hl1_1_1 : W1.cell? ⟨w.heap.size + 1, 1, none⟩ = some (num n) := (hc1 _ _ (by first | omega | go_size)).trans (by first | (with_reducible assumption) | go_cell)
  have hz1_1_1 : W1.frozen? ⟨w.heap.size + 1, 1, none⟩ = false := (hf1 _ _ (by first | omega | go_size)).trans (by first | (with_reducible assumption) | (go_simp; done) | (simp [*]; done))
  have hl1_1_2 : W1.cell? ⟨w.heap.size + 1, 2, none⟩ = some (u64 0) := (hc1 _ _ (by first | omega | go_size)).trans (by first | (with_reducible assumption) | go_cell)
  have hz1_1_2 : W1.frozen? ⟨w.heap.size + 1, 2, none⟩ = false := (hf1 _ _ (by first | omega | go_size)).trans (by first | (with_reducible assumption) | (go_simp; done) | (simp [*]; done))
  have hl1_1_3 : W1.cell? ⟨w.heap.size + 1, 3, none⟩ = some (u64 0) := (hc1 _ _ (by first | omega | go_size)).trans (by first | (with_reducible assumption) | go_cell)
  have hz1_1_3 : W1.frozen? ⟨w.heap.size + 1, 3, none⟩ = false := (hf1 _ _ (by first | omega | go_size)).trans (by first | (with_reducible assumption) | (go_simp; done) | (simp [*]; done))
  have hl1_1_4 : W1.cell? ⟨w.heap.size + 1, 4, none⟩ = some (u64 0) := (hc1 _ _ (by first | omega | go_size)).trans (by first | (with_reducible assumption) | go_cell)
  have hz1_1_4 : W1.frozen? ⟨w.heap.size + 1, 4, none⟩ = false := (hf1 _ _ (by first | omega | go_size)).trans (by first | (with_reducible assumption) | (go_simp; done) | (simp [*]; done))
  have hk1_1 : w.heap.size + 1 < W1.heap.size := by omega
  clear hg1 hc1 hf1
  go_wp2_with fail
  refine (HO.out _).mono ?_
  rintro eE W2 ⟨rfl, hg2⟩
  have hb2 : Below w.heap.size w W2 := (show Below w.heap.size w _ by go_grown).trans (hg2.mono (by first | omega | go_size))
  obtain ⟨hc2, hf2⟩ := bcell hg2
  have hs2 := hg2.size
  try simp only [World.size_alloc, World.size_setCell, World.size_drew] at hs2
  have hl2_0_0 : W2.cell? ⟨w.heap.size, 0, none⟩ = some (.bool false) := (hc2 _ _ (by first | omega | go_size)).trans (by first | (with_reducible assumption) | go_cell)
  have hz2_0_0 : W2.frozen? ⟨w.heap.size, 0, none⟩ = false := (hf2 _ _ (by first | omega | go_size)).trans (by first | (with_reducible assumption) | (go_simp; done) | (simp [*]; done))
  have hl2_0_1 : W2.cell? ⟨w.heap.size, 1, none⟩ = some (num 0) := (hc2 _ _ (by first | omega | go_size)).trans (by first | (with_reducible assumption) | go_cell)
  have hz2_0_1 : W2.frozen? ⟨w.heap.size, 1, none⟩ = false := (hf2 _ _ (by first | omega | go_size)).trans (by first | (with_reducible assumption) | (go_simp; done) | (simp [*]; done))
  have hl2_0_2 : W2.cell? ⟨w.heap.size, 2, none⟩ = some (u64 0) := (hc2 _ _ (by first | omega | go_size)).trans (by first | (with_reducible assumption) | go_cell)
  have hz2_0_2 : W2.frozen? ⟨w.heap.size, 2, none⟩ = false := (hf2 _ _ (by first | omega | go_size)).trans (by first | (with_reducible assumption) | (go_simp; done) | (simp [*]; done))
  have hl2_0_3 : W2.cell? ⟨w.heap.size, 3, none⟩ = some (u64 0) := (hc2 _ _ (by first | omega | go_size)).trans (by first | (with_reducible assumption) | go_cell)
  have hz2_0_3 : W2.frozen? ⟨w.heap.size, 3, none⟩ = false := (hf2 _ _ (by first | omega | go_size)).trans (by first | (with_reducible assumption) | (go_simp; done) | (simp [*]; done))
  have hl2_0_4 : W2.cell? ⟨w.heap.size, 4, none⟩ = some (u64 0) := (hc2 _ _ (by first | omega | go_size)).trans (by first | (with_reducible assumption) | go_cell)
  have hz2_0_4 : W2.frozen? ⟨w.heap.size, 4, none⟩ = false := (hf2 _ _ (by first | omega | go_size)).trans (by first | (with_reducible assumption) | (go_simp; done) | (simp [*]; done))
  have hk2_0 : w.heap.size < W2.heap.size := by omega
  have hl2_1_0 : W2.cell? ⟨w.heap.size + 1, 0, none⟩ = some (.bool p) := (hc2 _ _ (by first | omega | go_size)).trans (by first | (with_reducible assumption) | go_cell)
  have hz2_1_0 : W2.frozen? ⟨w.heap.size + 1, 0, none⟩ = false := (hf2 _ _ (by first | omega | go_size)).trans (by first | (with_reducible assumption) | (go_simp; done) | (simp [*]; done))
  have hl2_1_1 : W2.cell? ⟨w.heap.size + 1, 1, none⟩ = some (num n) := (hc2 _ _ (by first | omega | go_size)).trans (by first | (with_reducible assumption) | go_cell)
  have hz2_1_1 : W2.frozen? ⟨w.heap.size + 1, 1, none⟩ = false := (hf2 _ _ (by first | omega | go_size)).trans (by first | (with_reducible assumption) | (go_simp; done) | (simp [*]; done))
  have hl2_1_2 : W2.cell? ⟨w.heap.size + 1, 2, none⟩ = some (u64 0) := (hc2 _ _ (by first | omega | go_size)).trans (by first | (with_reducible assumption) | go_cell)
  have hz2_1_2 : W2.frozen? ⟨w.heap.size + 1, 2, none⟩ = false := (hf2 _ _ (by first | omega | go_size)).trans (by first | (with_reducible assumption) | (go_simp; done) | (simp [*]; done))
  have hl2_1_3 : W2.cell? ⟨w.heap.size + 1, 3, none⟩ = some (u64 0) := (hc2 _ _ (by first | omega | go_size)).trans (by first | (with_reducible assumption) | go_cell)
  have hz2_1_3 : W2.frozen? ⟨w.heap.size + 1, 3, none⟩ = false := (hf2 _ _ (by first | omega | go_size)).trans (by first | (with_reducible assumption) | (go_simp; done) | (simp [*]; done))
  have hl2_1_4 : W2.cell? ⟨w.heap.size + 1, 4, none⟩ = some (u64 0) := (hc2 _ _ (by first | omega | go_size)).trans (by first | (with_reducible assumption) | go_cell)
  have hz2_1_4 : W2.frozen? ⟨w.heap.size + 1, 4, none⟩ = false := (hf2 _ _ (by first | omega | go_size)).trans (by first | (with_reducible assumption) | (go_simp; done) | (simp [*]; done))
  have hk2_1 : w.heap.size + 1 < W2.heap.size := by omega
  clear hg2 hc2 hf2
  go_wp2_with fail
  clear hl1_0_0 hl1_0_1 hl1_0_2 hl1_0_3 hl1_0_4 hz1_0_0 hz1_0_1 hz1_0_2 hz1_0_3 hz1_0_4 hl1_1_0 hl1_1_1 hl1_1_2 hl1_1_3 hl1_1_4 hz1_1_0 hz1_1_1 hz1_1_2 hz1_1_3 hz1_1_4
  refine wp_loop_rounds 4 ?_
  rw [rounds_succ]
  go_wp2_with fail
  rcases F1 with rfl | rfl
  case inr =>
    obtain rfl : r = noPlace := by rw [← HQ.out]; rfl
    refine (s_align_g b 16 d 2 HB.out p2_16 HA1.out _).mono ?_
    rintro eE W3 ⟨rfl, hg3⟩
    have hb3 : Below w.heap.size w W3 := (show Below w.heap.size w _ by go_grown).trans (hg3.mono (by first | omega | go_size))
    obtain ⟨hc3, hf3⟩ := bcell hg3
    have hs3 := hg3.size
    try simp only [World.size_alloc, World.size_setCell, World.size_drew] at hs3
    have hl3_0_0 : W3.cell? ⟨w.heap.size, 0, none⟩ = some (.bool false) := (hc3 _ _ (by first | omega | go_size)).trans (by first | (with_reducible assumption) | go_cell)
    have hz3_0_0 : W3.frozen? ⟨w.heap.size, 0, none⟩ = false := (hf3 _ _ (by first | omega | go_size)).trans (by first | (with_reducible assumption) | (go_simp; done) | (simp [*]; done))
    have hl3_0_1 : W3.cell? ⟨w.heap.size, 1, none⟩ = some (num 0) := (hc3 _ _ (by first | omega | go_size)).trans (by first | (with_reducible assumption) | go_cell)
    have hz3_0_1 : W3.frozen? ⟨w.heap.size, 1, none⟩ = false := (hf3 _ _ (by first | omega | go_size)).trans (by first | (with_reducible assumption) | (go_simp; done) | (simp [*]; done))
    have hl3_0_2 : W3.cell? ⟨w.heap.size, 2, none⟩ = some (u64 0) := (hc3 _ _ (by first | omega | go_size)).trans (by first | (with_reducible assumption) | go_cell)
    have hz3_0_2 : W3.frozen? ⟨w.heap.size, 2, none⟩ = false := (hf3 _ _ (by first | omega | go_size)).trans (by first | (with_reducible assumption) | (go_simp; done) | (simp [*]; done))
    have hl3_0_3 : W3.cell? ⟨w.heap.size, 3, none⟩ = some (u64 0) := (hc3 _ _ (by first | omega | go_size)).trans (by first | (with_reducible assumption) | go_cell)
    have hz3_0_3 : W3.frozen? ⟨w.heap.size, 3, none⟩ = false := (hf3 _ _ (by first | omega | go_size)).trans (by first | (with_reducible assumption) | (go_simp; done) | (simp [*]; done))
    have hl3_0_4 : W3.cell? ⟨w.heap.size, 4, none⟩ = some (u64 0) := (hc3 _ _ (by first | omega | go_size)).trans (by first | (with_reducible assumption) | go_cell)
    have hz3_0_4 : W3.frozen? ⟨w.heap.size, 4, none⟩ = false := (hf3 _ _ (by first | omega | go_size)).trans (by first | (with_reducible assumption) | (go_simp; done) | (simp [*]; done))
    have hk3_0 : w.heap.size < W3.heap.size := by omega
    have hl3_1_0 : W3.cell? ⟨w.heap.size + 1, 0, none⟩ = some (.bool p) := (hc3 _ _ (by first | omega | go_size)).trans (by first | (with_reducible assumption) | go_cell)
    have hz3_1_0 : W3.frozen? ⟨w.heap.size + 1, 0, none⟩ = false := (hf3 _ _ (by first | omega | go_size)).trans (by first | (with_reducible assumption) | (go_simp; done) | (simp [*]; done))
    have hl3_1_1 : W3.cell? ⟨w.heap.size + 1, 1, none⟩ = some (num n) := (hc3 _ _ (by first | omega | go_size)).trans (by first | (with_reducible assumption) | go_cell)
    have hz3_1_1 : W3.frozen? ⟨w.heap.size + 1, 1, none⟩ = false := (hf3 _ _ (by first | omega | go_size)).trans (by first | (with_reducible assumption) | (go_simp; done) | (simp [*]; done))
    have hl3_1_2 : W3.cell? ⟨w.heap.size + 1, 2, none⟩ = some (u64 0) := (hc3 _ _ (by first | omega | go_size)).trans (by first | (with_reducible assumption) | go_cell)
    have hz3_1_2 : W3.frozen? ⟨w.heap.size + 1, 2, none⟩ = false := (hf3 _ _ (by first | omega | go_size)).trans (by first | (with_reducible assumption) | (go_simp; done) | (simp [*]; done))
    have hl3_1_3 : W3.cell? ⟨w.heap.size + 1, 3, none⟩ = some (u64 0) := (hc3 _ _ (by first | omega | go_size)).trans (by first | (with_reducible assumption) | go_cell)
    have hz3_1_3 : W3.frozen? ⟨w.heap.size + 1, 3, none⟩ = false := (hf3 _ _ (by first | omega | go_size)).trans (by first | (with_reducible assumption) | (go_simp; done) | (simp [*]; done))
    have hl3_1_4 : W3.cell? ⟨w.heap.size + 1, 4, none⟩ = some (u64 0) := (hc3 _ _ (by first | omega | go_size)).trans (by first | (with_reducible assumption) | go_cell)
    have hz3_1_4 : W3.frozen? ⟨w.heap.size + 1, 4, none⟩ = false := (hf3 _ _ (by first | omega | go_size)).trans (by first | (with_reducible assumption) | (go_simp; done) | (simp [*]; done))
    have hk3_1 : w.heap.size + 1 < W3.heap.size := by omega
    have hl3_2_0 : W3.cell? ⟨W2.heap.size, 0, none⟩ = some (u64 0) := (hc3 _ _ (by first | omega | go_size)).trans (by first | (with_reducible assumption) | go_cell)
    have hz3_2_0 : W3.frozen? ⟨W2.heap.size, 0, none⟩ = false := (hf3 _ _ (by first | omega | go_size)).trans (by first | (with_reducible assumption) | (go_simp; done) | (simp [*]; done))
    have hl3_2_1 : W3.cell? ⟨W2.heap.size, 1, none⟩ = some (u64 x) := (hc3 _ _ (by first | omega | go_size)).trans (by first | (with_reducible assumption) | go_cell)
    have hz3_2_1 : W3.frozen? ⟨W2.heap.size, 1, none⟩ = false := (hf3 _ _ (by first | omega | go_size)).trans (by first | (with_reducible assumption) | (go_simp; done) | (simp [*]; done))
    have hl3_2_2 : W3.cell? ⟨W2.heap.size, 2, none⟩ = some (u64 16) := (hc3 _ _ (by first | omega | go_size)).trans (by first | (with_reducible assumption) | go_cell)
    have hz3_2_2 : W3.frozen? ⟨W2.heap.size, 2, none⟩ = false := (hf3 _ _ (by first | omega | go_size)).trans (by first | (with_reducible assumption) | (go_simp; done) | (simp [*]; done))
    have hl3_2_3 : W3.cell? ⟨W2.heap.size, 3, none⟩ = some (u64 0) := (hc3 _ _ (by first | omega | go_size)).trans (by first | (with_reducible assumption) | go_cell)
    have hz3_2_3 : W3.frozen? ⟨W2.heap.size, 3, none⟩ = false := (hf3 _ _ (by first | omega | go_size)).trans (by first | (with_reducible assumption) | (go_simp; done) | (simp [*]; done))
    have hl3_2_4 : W3.cell? ⟨W2.heap.size, 4, none⟩ = some (u64 y) := (hc3 _ _ (by first | omega | go_size)).trans (by first | (with_reducible assumption) | go_cell)
    have hz3_2_4 : W3.frozen? ⟨W2.heap.size, 4, none⟩ = false := (hf3 _ _ (by first | omega | go_size)).trans (by first | (with_reducible assumption) | (go_simp; done) | (simp [*]; done))
    have hl3_2_5 : W3.cell? ⟨W2.heap.size, 5, none⟩ = some (u64 t) := (hc3 _ _ (by first | omega | go_size)).trans (by first | (with_reducible assumption) | go_cell)
    have hz3_2_5 : W3.frozen? ⟨W2.heap.size, 5, none⟩ = false := (hf3 _ _ (by first | omega | go_size)).trans (by first | (with_reducible assumption) | (go_simp; done) | (simp [*]; done))
    have hl3_2_6 : W3.cell? ⟨W2.heap.size, 6, none⟩ = some (u64 0) := (hc3 _ _ (by first | omega | go_size)).trans (by first | (with_reducible assumption) | go_cell)
    have hz3_2_6 : W3.frozen? ⟨W2.heap.size, 6, none⟩ = false := (hf3 _ _ (by first | omega | go_size)).trans (by first | (with_reducible assumption) | (go_simp; done) | (simp [*]; done))
    have hl3_2_7 : W3.cell? ⟨W2.heap.size, 7, none⟩ = some (u64 z) := (hc3 _ _ (by first | omega | go_size)).trans (by first | (with_reducible assumption) | go_cell)
    have hz3_2_7 : W3.frozen? ⟨W2.heap.size, 7, none⟩ = false := (hf3 _ _ (by first | omega | go_size)).trans (by first | (with_reducible assumption) | (go_simp; done) | (simp [*]; done))
    have hl3_2_8 : W3.cell? ⟨W2.heap.size, 8, none⟩ = some (u64 4) := (hc3 _ _ (by first | omega | go_size)).trans (by first | (with_reducible assumption) | go_cell)
    have hz3_2_8 : W3.frozen? ⟨W2.heap.size, 8, none⟩ = false := (hf3 _ _ (by first | omega | go_size)).trans (by first | (with_reducible assumption) | (go_simp; done) | (simp [*]; done))
    have hk3_2 : W2.heap.size < W3.heap.size := by omega
    have hl3_3_0 : W3.cell? ⟨W2.heap.size + 1, 0, none⟩ = some (u64 0) := (hc3 _ _ (by first | omega | go_size)).trans (by first | (with_reducible assumption) | go_cell)
    have hz3_3_0 : W3.frozen? ⟨W2.heap.size + 1, 0, none⟩ = false := (hf3 _ _ (by first | omega | go_size)).trans (by first | (with_reducible assumption) | (go_simp; done) | (simp [*]; done))
    have hl3_3_1 : W3.cell? ⟨W2.heap.size + 1, 1, none⟩ = some (u64 x) := (hc3 _ _ (by first | omega | go_size)).trans (by first | (with_reducible assumption) | go_cell)
    have hz3_3_1 : W3.frozen? ⟨W2.heap.size + 1, 1, none⟩ = false := (hf3 _ _ (by first | omega | go_size)).trans (by first | (with_reducible assumption) | (go_simp; done) | (simp [*]; done))
    have hl3_3_2 : W3.cell? ⟨W2.heap.size + 1, 2, none⟩ = some (u64 16) := (hc3 _ _ (by first | omega | go_size)).trans (by first | (with_reducible assumption) | go_cell)
    have hz3_3_2 : W3.frozen? ⟨W2.heap.size + 1, 2, none⟩ = false := (hf3 _ _ (by first | omega | go_size)).trans (by first | (with_reducible assumption) | (go_simp; done) | (simp [*]; done))
    have hk3_3 : W2.heap.size + 1 < W3.heap.size := by omega
    clear hg3 hc3 hf3
    go_wp2_with fail
    refine Lib.bodyPost_at5 (B := w.heap.size) (w := w) (w.heap.size) (.bool false) (num 0) (u64 0) (u64 0) (u64 0) (.tuple #[ringV false 0 0 0 0, u64 0, num 2]) ?_ ?_ ?_ ?_ ?_ ?_ rfl ?_ (fun WG hWG => ⟨rfl, hWG⟩)
    · first | (with_reducible assumption) | go_cell | (go_simp; done) | (simp [*]; done)
    · first | (with_reducible assumption) | go_cell | (go_simp; done) | (simp [*]; done)
    · first | (with_reducible assumption) | go_cell | (go_simp; done) | (simp [*]; done)
    · first | (with_reducible assumption) | go_cell | (go_simp; done) | (simp [*]; done)
    · first | (with_reducible assumption) | go_cell | (go_simp; done) | (simp [*]; done)
    · go_grown
    · intro WG qr0 qr1 qr2 qr3 qr4
      simp [results, Try.results71, go_sem, qr0, qr1, qr2, qr3, qr4]
  have wx : IntKind.u64.wrap (d + x) = w64 (d + x) := rfl
  obtain ⟨n1, hn1⟩ : ∃ n1, w64 (d + x) = n1 := ⟨_, rfl⟩
  have HN1 := Lib.hid (show u64in n1 from hn1 ▸ w64_in _)
  have hq := HQ.out
  unfold place2 at hq
  simp only [hn1, if_true] at hq wx
  clear hn1 HQ
  obtain ⟨v, f2, hd⟩ : ∃ d f, alignR n1 t = (d, f) := ⟨_, _, rfl⟩
  have F2 : f2 = 0 ∨ f2 = 2 := by rcases alignR_two n1 t with e | e <;> rw [hd] at e <;> simp at e <;> omega
  have hvi := alignR_in HN1.out ht1 hd
  simp only [hd] at hq
  have HA2 := Lib.hid hd
  have HQ := Lib.hid hq
  clear hd hq
  refine (s_align_g b 16 d 0 HB.out p2_16 HA1.out _).mono ?_
  rintro eE W3 ⟨rfl, hg3⟩
  have hb3 : Below w.heap.size w W3 := (show Below w.heap.size w _ by go_grown).trans (hg3.mono (by first | omega | go_size))
  obtain ⟨hc3, hf3⟩ := bcell hg3
  have hs3 := hg3.size
  try simp only [World.size_alloc, World.size_setCell, World.size_drew] at hs3
  have hl3_0_0 : W3.cell? ⟨w.heap.size, 0, none⟩ = some (.bool false) := (hc3 _ _ (by first | omega | go_size)).trans (by first | (with_reducible assumption) | go_cell)
  have hz3_0_0 : W3.frozen? ⟨w.heap.size, 0, none⟩ = false := (hf3 _ _ (by first | omega | go_size)).trans (by first | (with_reducible assumption) | (go_simp; done) | (simp [*]; done))
  have hl3_0_1 : W3.cell? ⟨w.heap.size, 1, none⟩ = some (num 0) := (hc3 _ _ (by first | omega | go_size)).trans (by first | (with_reducible assumption) | go_cell)
  have hz3_0_1 : W3.frozen? ⟨w.heap.size, 1, none⟩ = false := (hf3 _ _ (by first | omega | go_size)).trans (by first | (with_reducible assumption) | (go_simp; done) | (simp [*]; done))
  have hl3_0_2 : W3.cell? ⟨w.heap.size, 2, none⟩ = some (u64 0) := (hc3 _ _ (by first | omega | go_size)).trans (by first | (with_reducible assumption) | go_cell)
  have hz3_0_2 : W3.frozen? ⟨w.heap.size, 2, none⟩ = false := (hf3 _ _ (by first | omega | go_size)).trans (by first | (with_reducible assumption) | (go_simp; done) | (simp [*]; done))
  have hl3_0_3 : W3.cell? ⟨w.heap.size, 3, none⟩ = some (u64 0) := (hc3 _ _ (by first | omega | go_size)).trans (by first | (with_reducible assumption) | go_cell)
  have hz3_0_3 : W3.frozen? ⟨w.heap.size, 3, none⟩ = false := (hf3 _ _ (by first | omega | go_size)).trans (by first | (with_reducible assumption) | (go_simp; done) | (simp [*]; done))
  have hl3_0_4 : W3.cell? ⟨w.heap.size, 4, none⟩ = some (u64 0) := (hc3 _ _ (by first | omega | go_size)).trans (by first | (with_reducible assumption) | go_cell)
  have hz3_0_4 : W3.frozen? ⟨w.heap.size, 4, none⟩ = false := (hf3 _ _ (by first | omega | go_size)).trans (by first | (with_reducible assumption) | (go_simp; done) | (simp [*]; done))
  have hk3_0 : w.heap.size < W3.heap.size := by omega
  have hl3_1_0 : W3.cell? ⟨w.heap.size + 1, 0, none⟩ = some (.bool p) := (hc3 _ _ (by first | omega | go_size)).trans (by first | (with_reducible assumption) | go_cell)
  have hz3_1_0 : W3.frozen? ⟨w.heap.size + 1, 0, none⟩ = false := (hf3 _ _ (by first | omega | go_size)).trans (by first | (with_reducible assumption) | (go_simp; done) | (simp [*]; done))
  have hl3_1_1 : W3.cell? ⟨w.heap.size + 1, 1, none⟩ = some (num n) := (hc3 _ _ (by first | omega | go_size)).trans (by first | (with_reducible assumption) | go_cell)
  have hz3_1_1 : W3.frozen? ⟨w.heap.size + 1, 1, none⟩ = false := (hf3 _ _ (by first | omega | go_size)).trans (by first | (with_reducible assumption) | (go_simp; done) | (simp [*]; done))
  have hl3_1_2 : W3.cell? ⟨w.heap.size + 1, 2, none⟩ = some (u64 0) := (hc3 _ _ (by first | omega | go_size)).trans (by first | (with_reducible assumption) | go_cell)
  have hz3_1_2 : W3.frozen? ⟨w.heap.size + 1, 2, none⟩ = false := (hf3 _ _ (by first | omega | go_size)).trans (by first | (with_reducible assumption) | (go_simp; done) | (simp [*]; done))
  have hl3_1_3 : W3.cell? ⟨w.heap.size + 1, 3, none⟩ = some (u64 0) := (hc3 _ _ (by first | omega | go_size)).trans (by first | (with_reducible assumption) | go_cell)
  have hz3_1_3 : W3.frozen? ⟨w.heap.size + 1, 3, none⟩ = false := (hf3 _ _ (by first | omega | go_size)).trans (by first | (with_reducible assumption) | (go_simp; done) | (simp [*]; done))
  have hl3_1_4 : W3.cell? ⟨w.heap.size + 1, 4, none⟩ = some (u64 0) := (hc3 _ _ (by first | omega | go_size)).trans (by first | (with_reducible assumption) | go_cell)
  have hz3_1_4 : W3.frozen? ⟨w.heap.size + 1, 4, none⟩ = false := (hf3 _ _ (by first | omega | go_size)).trans (by first | (with_reducible assumption) | (go_simp; done) | (simp [*]; done))
  have hk3_1 : w.heap.size + 1 < W3.heap.size := by omega
  have hl3_2_0 : W3.cell? ⟨W2.heap.size, 0, none⟩ = some (u64 0) := (hc3 _ _ (by first | omega | go_size)).trans (by first | (with_reducible assumption) | go_cell)
  have hz3_2_0 : W3.frozen? ⟨W2.heap.size, 0, none⟩ = false := (hf3 _ _ (by first | omega | go_size)).trans (by first | (with_reducible assumption) | (go_simp; done) | (simp [*]; done))
  have hl3_2_1 : W3.cell? ⟨W2.heap.size, 1, none⟩ = some (u64 x) := (hc3 _ _ (by first | omega | go_size)).trans (by first | (with_reducible assumption) | go_cell)
  have hz3_2_1 : W3.frozen? ⟨W2.heap.size, 1, none⟩ = false := (hf3 _ _ (by first | omega | go_size)).trans (by first | (with_reducible assumption) | (go_simp; done) | (simp [*]; done))
  have hl3_2_2 : W3.cell? ⟨W2.heap.size, 2, none⟩ = some (u64 16) := (hc3 _ _ (by first | omega | go_size)).trans (by first | (with_reducible assumption) | go_cell)
  have hz3_2_2 : W3.frozen? ⟨W2.heap.size, 2, none⟩ = false := (hf3 _ _ (by first | omega | go_size)).trans (by first | (with_reducible assumption) | (go_simp; done) | (simp [*]; done))
  have hl3_2_3 : W3.cell? ⟨W2.heap.size, 3, none⟩ = some (u64 0) := (hc3 _ _ (by first | omega | go_size)).trans (by first | (with_reducible assumption) | go_cell)
  have hz3_2_3 : W3.frozen? ⟨W2.heap.size, 3, none⟩ = false := (hf3 _ _ (by first | omega | go_size)).trans (by first | (with_reducible assumption) | (go_simp; done) | (simp [*]; done))
  have hl3_2_4 : W3.cell? ⟨W2.heap.size, 4, none⟩ = some (u64 y) := (hc3 _ _ (by first | omega | go_size)).trans (by first | (with_reducible assumption) | go_cell)
  have hz3_2_4 : W3.frozen? ⟨W2.heap.size, 4, none⟩ = false := (hf3 _ _ (by first | omega | go_size)).trans (by first | (with_reducible assumption) | (go_simp; done) | (simp [*]; done))
  have hl3_2_5 : W3.cell? ⟨W2.heap.size, 5, none⟩ = some (u64 t) := (hc3 _ _ (by first | omega | go_size)).trans (by first | (with_reducible assumption) | go_cell)
  have hz3_2_5 : W3.frozen? ⟨W2.heap.size, 5, none⟩ = false := (hf3 _ _ (by first | omega | go_size)).trans (by first | (with_reducible assumption) | (go_simp; done) | (simp [*]; done))
  have hl3_2_6 : W3.cell? ⟨W2.heap.size, 6, none⟩ = some (u64 0) := (hc3 _ _ (by first | omega | go_size)).trans (by first | (with_reducible assumption) | go_cell)
  have hz3_2_6 : W3.frozen? ⟨W2.heap.size, 6, none⟩ = false := (hf3 _ _ (by first | omega | go_size)).trans (by first | (with_reducible assumption) | (go_simp; done) | (simp [*]; done))
  have hl3_2_7 : W3.cell? ⟨W2.heap.size, 7, none⟩ = some (u64 z) := (hc3 _ _ (by first | omega | go_size)).trans (by first | (with_reducible assumption) | go_cell)
  have hz3_2_7 : W3.frozen? ⟨W2.heap.size, 7, none⟩ = false := (hf3 _ _ (by first | omega | go_size)).trans (by first | (with_reducible assumption) | (go_simp; done) | (simp [*]; done))
  have hl3_2_8 : W3.cell? ⟨W2.heap.size, 8, none⟩ = some (u64 4) := (hc3 _ _ (by first | omega | go_size)).trans (by first | (with_reducible assumption) | go_cell)
  have hz3_2_8 : W3.frozen? ⟨W2.heap.size, 8, none⟩ = false := (hf3 _ _ (by first | omega | go_size)).trans (by first | (with_reducible assumption) | (go_simp; done) | (simp [*]; done))
  have hk3_2 : W2.heap.size < W3.heap.size := by omega
  have hl3_3_0 : W3.cell? ⟨W2.heap.size + 1, 0, none⟩ = some (u64 0) := (hc3 _ _ (by first | omega | go_size)).trans (by first | (with_reducible assumption) | go_cell)
  have hz3_3_0 : W3.frozen? ⟨W2.heap.size + 1, 0, none⟩ = false := (hf3 _ _ (by first | omega | go_size)).trans (by first | (with_reducible assumption) | (go_simp; done) | (simp [*]; done))
  have hl3_3_1 : W3.cell? ⟨W2.heap.size + 1, 1, none⟩ = some (u64 x) := (hc3 _ _ (by first | omega | go_size)).trans (by first | (with_reducible assumption) | go_cell)
  have hz3_3_1 : W3.frozen? ⟨W2.heap.size + 1, 1, none⟩ = false := (hf3 _ _ (by first | omega | go_size)).trans (by first | (with_reducible assumption) | (go_simp; done) | (simp [*]; done))
  have hl3_3_2 : W3.cell? ⟨W2.heap.size + 1, 2, none⟩ = some (u64 16) := (hc3 _ _ (by first | omega | go_size)).trans (by first | (with_reducible assumption) | go_cell)
  have hz3_3_2 : W3.frozen? ⟨W2.heap.size + 1, 2, none⟩ = false := (hf3 _ _ (by first | omega | go_size)).trans (by first | (with_reducible assumption) | (go_simp; done) | (simp [*]; done))
  have hk3_3 : W2.heap.size + 1 < W3.heap.size := by omega
  clear hg3 hc3 hf3
  go_wp2_with fail
  rw [rounds_succ]
  go_wp2_with fail
  rcases F2 with rfl | rfl
  case inr =>
    obtain rfl : r = noPlace := by rw [← HQ.out]; rfl
    refine (s_align_g n1 t v 2 HN1.out HT.out HA2.out _).mono ?_
    rintro eE W4 ⟨rfl, hg4⟩
    have hb4 : Below w.heap.size w W4 := (show Below w.heap.size w _ by go_grown).trans (hg4.mono (by first | omega | go_size))
    obtain ⟨hc4, hf4⟩ := bcell hg4
    have hs4 := hg4.size
    try simp only [World.size_alloc, World.size_setCell, World.size_drew] at hs4
    have hl4_0_0 : W4.cell? ⟨w.heap.size, 0, none⟩ = some (.bool false) := (hc4 _ _ (by first | omega | go_size)).trans (by first | (with_reducible assumption) | go_cell)
    have hz4_0_0 : W4.frozen? ⟨w.heap.size, 0, none⟩ = false := (hf4 _ _ (by first | omega | go_size)).trans (by first | (with_reducible assumption) | (go_simp; done) | (simp [*]; done))
    have hl4_0_1 : W4.cell? ⟨w.heap.size, 1, none⟩ = some (num 0) := (hc4 _ _ (by first | omega | go_size)).trans (by first | (with_reducible assumption) | go_cell)
    have hz4_0_1 : W4.frozen? ⟨w.heap.size, 1, none⟩ = false := (hf4 _ _ (by first | omega | go_size)).trans (by first | (with_reducible assumption) | (go_simp; done) | (simp [*]; done))
    have hl4_0_2 : W4.cell? ⟨w.heap.size, 2, none⟩ = some (u64 0) := (hc4 _ _ (by first | omega | go_size)).trans (by first | (with_reducible assumption) | go_cell)
    have hz4_0_2 : W4.frozen? ⟨w.heap.size, 2, none⟩ = false := (hf4 _ _ (by first | omega | go_size)).trans (by first | (with_reducible assumption) | (go_simp; done) | (simp [*]; done))
    have hl4_0_3 : W4.cell? ⟨w.heap.size, 3, none⟩ = some (u64 0) := (hc4 _ _ (by first | omega | go_size)).trans (by first | (with_reducible assumption) | go_cell)
    have hz4_0_3 : W4.frozen? ⟨w.heap.size, 3, none⟩ = false := (hf4 _ _ (by first | omega | go_size)).trans (by first | (with_reducible assumption) | (go_simp; done) | (simp [*]; done))
    have hl4_0_4 : W4.cell? ⟨w.heap.size, 4, none⟩ = some (u64 0) := (hc4 _ _ (by first | omega | go_size)).trans (by first | (with_reducible assumption) | go_cell)
    have hz4_0_4 : W4.frozen? ⟨w.heap.size, 4, none⟩ = false := (hf4 _ _ (by first | omega | go_size)).trans (by first | (with_reducible assumption) | (go_simp; done) | (simp [*]; done))
    have hk4_0 : w.heap.size < W4.heap.size := by omega
    have hl4_1_0 : W4.cell? ⟨w.heap.size + 1, 0, none⟩ = some (.bool p) := (hc4 _ _ (by first | omega | go_size)).trans (by first | (with_reducible assumption) | go_cell)
    have hz4_1_0 : W4.frozen? ⟨w.heap.size + 1, 0, none⟩ = false := (hf4 _ _ (by first | omega | go_size)).trans (by first | (with_reducible assumption) | (go_simp; done) | (simp [*]; done))
    have hl4_1_1 : W4.cell? ⟨w.heap.size + 1, 1, none⟩ = some (num n) := (hc4 _ _ (by first | omega | go_size)).trans (by first | (with_reducible assumption) | go_cell)
    have hz4_1_1 : W4.frozen? ⟨w.heap.size + 1, 1, none⟩ = false := (hf4 _ _ (by first | omega | go_size)).trans (by first | (with_reducible assumption) | (go_simp; done) | (simp [*]; done))
    have hl4_1_2 : W4.cell? ⟨w.heap.size + 1, 2, none⟩ = some (u64 0) := (hc4 _ _ (by first | omega | go_size)).trans (by first | (with_reducible assumption) | go_cell)
    have hz4_1_2 : W4.frozen? ⟨w.heap.size + 1, 2, none⟩ = false := (hf4 _ _ (by first | omega | go_size)).trans (by first | (with_reducible assumption) | (go_simp; done) | (simp [*]; done))
    have hl4_1_3 : W4.cell? ⟨w.heap.size + 1, 3, none⟩ = some (u64 0) := (hc4 _ _ (by first | omega | go_size)).trans (by first | (with_reducible assumption) | go_cell)
    have hz4_1_3 : W4.frozen? ⟨w.heap.size + 1, 3, none⟩ = false := (hf4 _ _ (by first | omega | go_size)).trans (by first | (with_reducible assumption) | (go_simp; done) | (simp [*]; done))
    have hl4_1_4 : W4.cell? ⟨w.heap.size + 1, 4, none⟩ = some (u64 0) := (hc4 _ _ (by first | omega | go_size)).trans (by first | (with_reducible assumption) | go_cell)
    have hz4_1_4 : W4.frozen? ⟨w.heap.size + 1, 4, none⟩ = false := (hf4 _ _ (by first | omega | go_size)).trans (by first | (with_reducible assumption) | (go_simp; done) | (simp [*]; done))
    have hk4_1 : w.heap.size + 1 < W4.heap.size := by omega
    have hl4_2_0 : W4.cell? ⟨W2.heap.size, 0, none⟩ = some (u64 d) := (hc4 _ _ (by first | omega | go_size)).trans (by first | (with_reducible assumption) | go_cell)
    have hz4_2_0 : W4.frozen? ⟨W2.heap.size, 0, none⟩ = false := (hf4 _ _ (by first | omega | go_size)).trans (by first | (with_reducible assumption) | (go_simp; done) | (simp [*]; done))
    have hl4_2_1 : W4.cell? ⟨W2.heap.size, 1, none⟩ = some (u64 x) := (hc4 _ _ (by first | omega | go_size)).trans (by first | (with_reducible assumption) | go_cell)
    have hz4_2_1 : W4.frozen? ⟨W2.heap.size, 1, none⟩ = false := (hf4 _ _ (by first | omega | go_size)).trans (by first | (with_reducible assumption) | (go_simp; done) | (simp [*]; done))
    have hl4_2_2 : W4.cell? ⟨W2.heap.size, 2, none⟩ = some (u64 16) := (hc4 _ _ (by first | omega | go_size)).trans (by first | (with_reducible assumption) | go_cell)
    have hz4_2_2 : W4.frozen? ⟨W2.heap.size, 2, none⟩ = false := (hf4 _ _ (by first | omega | go_size)).trans (by first | (with_reducible assumption) | (go_simp; done) | (simp [*]; done))
    have hl4_2_3 : W4.cell? ⟨W2.heap.size, 3, none⟩ = some (u64 0) := (hc4 _ _ (by first | omega | go_size)).trans (by first | (with_reducible assumption) | go_cell)
    have hz4_2_3 : W4.frozen? ⟨W2.heap.size, 3, none⟩ = false := (hf4 _ _ (by first | omega | go_size)).trans (by first | (with_reducible assumption) | (go_simp; done) | (simp [*]; done))
    have hl4_2_4 : W4.cell? ⟨W2.heap.size, 4, none⟩ = some (u64 y) := (hc4 _ _ (by first | omega | go_size)).trans (by first | (with_reducible assumption) | go_cell)
    have hz4_2_4 : W4.frozen? ⟨W2.heap.size, 4, none⟩ = false := (hf4 _ _ (by first | omega | go_size)).trans (by first | (with_reducible assumption) | (go_simp; done) | (simp [*]; done))
    have hl4_2_5 : W4.cell? ⟨W2.heap.size, 5, none⟩ = some (u64 t) := (hc4 _ _ (by first | omega | go_size)).trans (by first | (with_reducible assumption) | go_cell)
    have hz4_2_5 : W4.frozen? ⟨W2.heap.size, 5, none⟩ = false := (hf4 _ _ (by first | omega | go_size)).trans (by first | (with_reducible assumption) | (go_simp; done) | (simp [*]; done))
    have hl4_2_6 : W4.cell? ⟨W2.heap.size, 6, none⟩ = some (u64 0) := (hc4 _ _ (by first | omega | go_size)).trans (by first | (with_reducible assumption) | go_cell)
    have hz4_2_6 : W4.frozen? ⟨W2.heap.size, 6, none⟩ = false := (hf4 _ _ (by first | omega | go_size)).trans (by first | (with_reducible assumption) | (go_simp; done) | (simp [*]; done))
    have hl4_2_7 : W4.cell? ⟨W2.heap.size, 7, none⟩ = some (u64 z) := (hc4 _ _ (by first | omega | go_size)).trans (by first | (with_reducible assumption) | go_cell)
    have hz4_2_7 : W4.frozen? ⟨W2.heap.size, 7, none⟩ = false := (hf4 _ _ (by first | omega | go_size)).trans (by first | (with_reducible assumption) | (go_simp; done) | (simp [*]; done))
    have hl4_2_8 : W4.cell? ⟨W2.heap.size, 8, none⟩ = some (u64 4) := (hc4 _ _ (by first | omega | go_size)).trans (by first | (with_reducible assumption) | go_cell)
    have hz4_2_8 : W4.frozen? ⟨W2.heap.size, 8, none⟩ = false := (hf4 _ _ (by first | omega | go_size)).trans (by first | (with_reducible assumption) | (go_simp; done) | (simp [*]; done))
    have hk4_2 : W2.heap.size < W4.heap.size := by omega
    have hl4_3_0 : W4.cell? ⟨W3.heap.size, 0, none⟩ = some (u64 0) := (hc4 _ _ (by first | omega | go_size)).trans (by first | (with_reducible assumption) | go_cell)
    have hz4_3_0 : W4.frozen? ⟨W3.heap.size, 0, none⟩ = false := (hf4 _ _ (by first | omega | go_size)).trans (by first | (with_reducible assumption) | (go_simp; done) | (simp [*]; done))
    have hl4_3_1 : W4.cell? ⟨W3.heap.size, 1, none⟩ = some (u64 y) := (hc4 _ _ (by first | omega | go_size)).trans (by first | (with_reducible assumption) | go_cell)
    have hz4_3_1 : W4.frozen? ⟨W3.heap.size, 1, none⟩ = false := (hf4 _ _ (by first | omega | go_size)).trans (by first | (with_reducible assumption) | (go_simp; done) | (simp [*]; done))
    have hl4_3_2 : W4.cell? ⟨W3.heap.size, 2, none⟩ = some (u64 t) := (hc4 _ _ (by first | omega | go_size)).trans (by first | (with_reducible assumption) | go_cell)
    have hz4_3_2 : W4.frozen? ⟨W3.heap.size, 2, none⟩ = false := (hf4 _ _ (by first | omega | go_size)).trans (by first | (with_reducible assumption) | (go_simp; done) | (simp [*]; done))
    have hk4_3 : W3.heap.size < W4.heap.size := by omega
    clear hg4 hc4 hf4
    go_wp2_with fail
    refine Lib.bodyPost_at5 (B := w.heap.size) (w := w) (w.heap.size) (.bool false) (num 0) (u64 0) (u64 0) (u64 0) (.tuple #[ringV false 0 0 0 0, u64 0, num 2]) ?_ ?_ ?_ ?_ ?_ ?_ rfl ?_ (fun WG hWG => ⟨rfl, hWG⟩)
    · first | (with_reducible assumption) | go_cell | (go_simp; done) | (simp [*]; done)
    · first | (with_reducible assumption) | go_cell | (go_simp; done) | (simp [*]; done)
    · first | (with_reducible assumption) | go_cell | (go_simp; done) | (simp [*]; done)
    · first | (with_reducible assumption) | go_cell | (go_simp; done) | (simp [*]; done)
    · first | (with_reducible assumption) | go_cell | (go_simp; done) | (simp [*]; done)
    · go_grown
    · intro WG qr0 qr1 qr2 qr3 qr4
      simp [results, Try.results71, go_sem, qr0, qr1, qr2, qr3, qr4]
  have wy : IntKind.u64.wrap (v + y) = w64 (v + y) := rfl
  obtain ⟨n2, hn2⟩ : ∃ n2, w64 (v + y) = n2 := ⟨_, rfl⟩
  have HN2 := Lib.hid (show u64in n2 from hn2 ▸ w64_in _)
  have hq := HQ.out
  unfold place3 at hq
  simp only [hn2, if_true] at hq wy
  clear hn2 HQ
  obtain ⟨e, f3, hd⟩ : ∃ d f, alignR n2 4 = (d, f) := ⟨_, _, rfl⟩
  have F3 : f3 = 0 ∨ f3 = 2 := by rcases alignR_two n2 4 with e | e <;> rw [hd] at e <;> simp at e <;> omega
  simp only [hd] at hq
  have HA3 := Lib.hid hd
  have HQ := Lib.hid hq
  clear hd hq
  refine (s_align_g n1 t v 0 HN1.out HT.out HA2.out _).mono ?_
  rintro eE W4 ⟨rfl, hg4⟩
  have hb4 : Below w.heap.size w W4 := (show Below w.heap.size w _ by go_grown).trans (hg4.mono (by first | omega | go_size))
  obtain ⟨hc4, hf4⟩ := bcell hg4
  have hs4 := hg4.size
  try simp only [World.size_alloc, World.size_setCell, World.size_drew] at hs4
  have hl4_0_0 : W4.cell? ⟨w.heap.size, 0, none⟩ = some (.bool false) := (hc4 _ _ (by first | omega | go_size)).trans (by first | (with_reducible assumption) | go_cell)
  have hz4_0_0 : W4.frozen? ⟨w.heap.size, 0, none⟩ = false := (hf4 _ _ (by first | omega | go_size)).trans (by first | (with_reducible assumption) | (go_simp; done) | (simp [*]; done))
  have hl4_0_1 : W4.cell? ⟨w.heap.size, 1, none⟩ = some (num 0) := (hc4 _ _ (by first | omega | go_size)).trans (by first | (with_reducible assumption) | go_cell)
  have hz4_0_1 : W4.frozen? ⟨w.heap.size, 1, none⟩ = false := (hf4 _ _ (by first | omega | go_size)).trans (by first | (with_reducible assumption) | (go_simp; done) | (simp [*]; done))
  have hl4_0_2 : W4.cell? ⟨w.heap.size, 2, none⟩ = some (u64 0) := (hc4 _ _ (by first | omega | go_size)).trans (by first | (with_reducible assumption) | go_cell)
  have hz4_0_2 : W4.frozen? ⟨w.heap.size, 2, none⟩ = false := (hf4 _ _ (by first | omega | go_size)).trans (by first | (with_reducible assumption) | (go_simp; done) | (simp [*]; done))
  have hl4_0_3 : W4.cell? ⟨w.heap.size, 3, none⟩ = some (u64 0) := (hc4 _ _ (by first | omega | go_size)).trans (by first | (with_reducible assumption) | go_cell)
  have hz4_0_3 : W4.frozen? ⟨w.heap.size, 3, none⟩ = false := (hf4 _ _ (by first | omega | go_size)).trans (by first | (with_reducible assumption) | (go_simp; done) | (simp [*]; done))
  have hl4_0_4 : W4.cell? ⟨w.heap.size, 4, none⟩ = some (u64 0) := (hc4 _ _ (by first | omega | go_size)).trans (by first | (with_reducible assumption) | go_cell)
  have hz4_0_4 : W4.frozen? ⟨w.heap.size, 4, none⟩ = false := (hf4 _ _ (by first | omega | go_size)).trans (by first | (with_reducible assumption) | (go_simp; done) | (simp [*]; done))
  have hk4_0 : w.heap.size < W4.heap.size := by omega
  have hl4_1_0 : W4.cell? ⟨w.heap.size + 1, 0, none⟩ = some (.bool p) := (hc4 _ _ (by first | omega | go_size)).trans (by first | (with_reducible assumption) | go_cell)
  have hz4_1_0 : W4.frozen? ⟨w.heap.size + 1, 0, none⟩ = false := (hf4 _ _ (by first | omega | go_size)).trans (by first | (with_reducible assumption) | (go_simp; done) | (simp [*]; done))
  have hl4_1_1 : W4.cell? ⟨w.heap.size + 1, 1, none⟩ = some (num n) := (hc4 _ _ (by first | omega | go_size)).trans (by first | (with_reducible assumption) | go_cell)
  have hz4_1_1 : W4.frozen? ⟨w.heap.size + 1, 1, none⟩ = false := (hf4 _ _ (by first | omega | go_size)).trans (by first | (with_reducible assumption) | (go_simp; done) | (simp [*]; done))
  have hl4_1_2 : W4.cell? ⟨w.heap.size + 1, 2, none⟩ = some (u64 0) := (hc4 _ _ (by first | omega | go_size)).trans (by first | (with_reducible assumption) | go_cell)
  have hz4_1_2 : W4.frozen? ⟨w.heap.size + 1, 2, none⟩ = false := (hf4 _ _ (by first | omega | go_size)).trans (by first | (with_reducible assumption) | (go_simp; done) | (simp [*]; done))
  have hl4_1_3 : W4.cell? ⟨w.heap.size + 1, 3, none⟩ = some (u64 0) := (hc4 _ _ (by first | omega | go_size)).trans (by first | (with_reducible assumption) | go_cell)
  have hz4_1_3 : W4.frozen? ⟨w.heap.size + 1, 3, none⟩ = false := (hf4 _ _ (by first | omega | go_size)).trans (by first | (with_reducible assumption) | (go_simp; done) | (simp [*]; done))
  have hl4_1_4 : W4.cell? ⟨w.heap.size + 1, 4, none⟩ = some (u64 0) := (hc4 _ _ (by first | omega | go_size)).trans (by first | (with_reducible assumption) | go_cell)
  have hz4_1_4 : W4.frozen? ⟨w.heap.size + 1, 4, none⟩ = false := (hf4 _ _ (by first | omega | go_size)).trans (by first | (with_reducible assumption) | (go_simp; done) | (simp [*]; done))
  have hk4_1 : w.heap.size + 1 < W4.heap.size := by omega
  have hl4_2_0 : W4.cell? ⟨W2.heap.size, 0, none⟩ = some (u64 d) := (hc4 _ _ (by first | omega | go_size)).trans (by first | (with_reducible assumption) | go_cell)
  have hz4_2_0 : W4.frozen? ⟨W2.heap.size, 0, none⟩ = false := (hf4 _ _ (by first | omega | go_size)).trans (by first | (with_reducible assumption) | (go_simp; done) | (simp [*]; done))
  have hl4_2_1 : W4.cell? ⟨W2.heap.size, 1, none⟩ = some (u64 x) := (hc4 _ _ (by first | omega | go_size)).trans (by first | (with_reducible assumption) | go_cell)
  have hz4_2_1 : W4.frozen? ⟨W2.heap.size, 1, none⟩ = false := (hf4 _ _ (by first | omega | go_size)).trans (by first | (with_reducible assumption) | (go_simp; done) | (simp [*]; done))
  have hl4_2_2 : W4.cell? ⟨W2.heap.size, 2, none⟩ = some (u64 16) := (hc4 _ _ (by first | omega | go_size)).trans (by first | (with_reducible assumption) | go_cell)
  have hz4_2_2 : W4.frozen? ⟨W2.heap.size, 2, none⟩ = false := (hf4 _ _ (by first | omega | go_size)).trans (by first | (with_reducible assumption) | (go_simp; done) | (simp [*]; done))
  have hl4_2_3 : W4.cell? ⟨W2.heap.size, 3, none⟩ = some (u64 0) := (hc4 _ _ (by first | omega | go_size)).trans (by first | (with_reducible assumption) | go_cell)
  have hz4_2_3 : W4.frozen? ⟨W2.heap.size, 3, none⟩ = false := (hf4 _ _ (by first | omega | go_size)).trans (by first | (with_reducible assumption) | (go_simp; done) | (simp [*]; done))
  have hl4_2_4 : W4.cell? ⟨W2.heap.size, 4, none⟩ = some (u64 y) := (hc4 _ _ (by first | omega | go_size)).trans (by first | (with_reducible assumption) | go_cell)
  have hz4_2_4 : W4.frozen? ⟨W2.heap.size, 4, none⟩ = false := (hf4 _ _ (by first | omega | go_size)).trans (by first | (with_reducible assumption) | (go_simp; done) | (simp [*]; done))
  have hl4_2_5 : W4.cell? ⟨W2.heap.size, 5, none⟩ = some (u64 t) := (hc4 _ _ (by first | omega | go_size)).trans (by first | (with_reducible assumption) | go_cell)
  have hz4_2_5 : W4.frozen? ⟨W2.heap.size, 5, none⟩ = false := (hf4 _ _ (by first | omega | go_size)).trans (by first | (with_reducible assumption) | (go_simp; done) | (simp [*]; done))
  have hl4_2_6 : W4.cell? ⟨W2.heap.size, 6, none⟩ = some (u64 0) := (hc4 _ _ (by first | omega | go_size)).trans (by first | (with_reducible assumption) | go_cell)
  have hz4_2_6 : W4.frozen? ⟨W2.heap.size, 6, none⟩ = false := (hf4 _ _ (by first | omega | go_size)).trans (by first | (with_reducible assumption) | (go_simp; done) | (simp [*]; done))
  have hl4_2_7 : W4.cell? ⟨W2.heap.size, 7, none⟩ = some (u64 z) := (hc4 _ _ (by first | omega | go_size)).trans (by first | (with_reducible assumption) | go_cell)
  have hz4_2_7 : W4.frozen? ⟨W2.heap.size, 7, none⟩ = false := (hf4 _ _ (by first | omega | go_size)).trans (by first | (with_reducible assumption) | (go_simp; done) | (simp [*]; done))
  have hl4_2_8 : W4.cell? ⟨W2.heap.size, 8, none⟩ = some (u64 4) := (hc4 _ _ (by first | omega | go_size)).trans (by first | (with_reducible assumption) | go_cell)
  have hz4_2_8 : W4.frozen? ⟨W2.heap.size, 8, none⟩ = false := (hf4 _ _ (by first | omega | go_size)).trans (by first | (with_reducible assumption) | (go_simp; done) | (simp [*]; done))
  have hk4_2 : W2.heap.size < W4.heap.size := by omega
  have hl4_3_0 : W4.cell? ⟨W3.heap.size, 0, none⟩ = some (u64 0) := (hc4 _ _ (by first | omega | go_size)).trans (by first | (with_reducible assumption) | go_cell)
  have hz4_3_0 : W4.frozen? ⟨W3.heap.size, 0, none⟩ = false := (hf4 _ _ (by first | omega | go_size)).trans (by first | (with_reducible assumption) | (go_simp; done) | (simp [*]; done))
  have hl4_3_1 : W4.cell? ⟨W3.heap.size, 1, none⟩ = some (u64 y) := (hc4 _ _ (by first | omega | go_size)).trans (by first | (with_reducible assumption) | go_cell)
  have hz4_3_1 : W4.frozen? ⟨W3.heap.size, 1, none⟩ = false := (hf4 _ _ (by first | omega | go_size)).trans (by first | (with_reducible assumption) | (go_simp; done) | (simp [*]; done))
  have hl4_3_2 : W4.cell? ⟨W3.heap.size, 2, none⟩ = some (u64 t) := (hc4 _ _ (by first | omega | go_size)).trans (by first | (with_reducible assumption) | go_cell)
  have hz4_3_2 : W4.frozen? ⟨W3.heap.size, 2, none⟩ = false := (hf4 _ _ (by first | omega | go_size)).trans (by first | (with_reducible assumption) | (go_simp; done) | (simp [*]; done))
  have hk4_3 : W3.heap.size < W4.heap.size := by omega
  clear hg4 hc4 hf4
  go_wp2_with fail
  rw [rounds_succ]
  go_wp2_with fail
  rcases F3 with rfl | rfl
  case inr =>
    obtain rfl : r = noPlace := by rw [← HQ.out]; rfl
    refine (s_align_g n2 4 e 2 HN2.out p2_4 HA3.out _).mono ?_
    rintro eE W5 ⟨rfl, hg5⟩
    have hb5 : Below w.heap.size w W5 := (show Below w.heap.size w _ by go_grown).trans (hg5.mono (by first | omega | go_size))
    obtain ⟨hc5, hf5⟩ := bcell hg5
    have hs5 := hg5.size
    try simp only [World.size_alloc, World.size_setCell, World.size_drew] at hs5
    have hl5_0_0 : W5.cell? ⟨w.heap.size, 0, none⟩ = some (.bool false) := (hc5 _ _ (by first | omega | go_size)).trans (by first | (with_reducible assumption) | go_cell)
    have hz5_0_0 : W5.frozen? ⟨w.heap.size, 0, none⟩ = false := (hf5 _ _ (by first | omega | go_size)).trans (by first | (with_reducible assumption) | (go_simp; done) | (simp [*]; done))
    have hl5_0_1 : W5.cell? ⟨w.heap.size, 1, none⟩ = some (num 0) := (hc5 _ _ (by first | omega | go_size)).trans (by first | (with_reducible assumption) | go_cell)
    have hz5_0_1 : W5.frozen? ⟨w.heap.size, 1, none⟩ = false := (hf5 _ _ (by first | omega | go_size)).trans (by first | (with_reducible assumption) | (go_simp; done) | (simp [*]; done))
    have hl5_0_2 : W5.cell? ⟨w.heap.size, 2, none⟩ = some (u64 0) := (hc5 _ _ (by first | omega | go_size)).trans (by first | (with_reducible assumption) | go_cell)
    have hz5_0_2 : W5.frozen? ⟨w.heap.size, 2, none⟩ = false := (hf5 _ _ (by first | omega | go_size)).trans (by first | (with_reducible assumption) | (go_simp; done) | (simp [*]; done))
    have hl5_0_3 : W5.cell? ⟨w.heap.size, 3, none⟩ = some (u64 0) := (hc5 _ _ (by first | omega | go_size)).trans (by first | (with_reducible assumption) | go_cell)
    have hz5_0_3 : W5.frozen? ⟨w.heap.size, 3, none⟩ = false := (hf5 _ _ (by first | omega | go_size)).trans (by first | (with_reducible assumption) | (go_simp; done) | (simp [*]; done))
    have hl5_0_4 : W5.cell? ⟨w.heap.size, 4, none⟩ = some (u64 0) := (hc5 _ _ (by first | omega | go_size)).trans (by first | (with_reducible assumption) | go_cell)
    have hz5_0_4 : W5.frozen? ⟨w.heap.size, 4, none⟩ = false := (hf5 _ _ (by first | omega | go_size)).trans (by first | (with_reducible assumption) | (go_simp; done) | (simp [*]; done))
    have hk5_0 : w.heap.size < W5.heap.size := by omega
    have hl5_1_0 : W5.cell? ⟨w.heap.size + 1, 0, none⟩ = some (.bool p) := (hc5 _ _ (by first | omega | go_size)).trans (by first | (with_reducible assumption) | go_cell)
    have hz5_1_0 : W5.frozen? ⟨w.heap.size + 1, 0, none⟩ = false := (hf5 _ _ (by first | omega | go_size)).trans (by first | (with_reducible assumption) | (go_simp; done) | (simp [*]; done))
    have hl5_1_1 : W5.cell? ⟨w.heap.size + 1, 1, none⟩ = some (num n) := (hc5 _ _ (by first | omega | go_size)).trans (by first | (with_reducible assumption) | go_cell)
    have hz5_1_1 : W5.frozen? ⟨w.heap.size + 1, 1, none⟩ = false := (hf5 _ _ (by first | omega | go_size)).trans (by first | (with_reducible assumption) | (go_simp; done) | (simp [*]; done))
    have hl5_1_2 : W5.cell? ⟨w.heap.size + 1, 2, none⟩ = some (u64 0) := (hc5 _ _ (by first | omega | go_size)).trans (by first | (with_reducible assumption) | go_cell)
    have hz5_1_2 : W5.frozen? ⟨w.heap.size + 1, 2, none⟩ = false := (hf5 _ _ (by first | omega | go_size)).trans (by first | (with_reducible assumption) | (go_simp; done) | (simp [*]; done))
    have hl5_1_3 : W5.cell? ⟨w.heap.size + 1, 3, none⟩ = some (u64 0) := (hc5 _ _ (by first | omega | go_size)).trans (by first | (with_reducible assumption) | go_cell)
    have hz5_1_3 : W5.frozen? ⟨w.heap.size + 1, 3, none⟩ = false := (hf5 _ _ (by first | omega | go_size)).trans (by first | (with_reducible assumption) | (go_simp; done) | (simp [*]; done))
    have hl5_1_4 : W5.cell? ⟨w.heap.size + 1, 4, none⟩ = some (u64 0) := (hc5 _ _ (by first | omega | go_size)).trans (by first | (with_reducible assumption) | go_cell)
    have hz5_1_4 : W5.frozen? ⟨w.heap.size + 1, 4, none⟩ = false := (hf5 _ _ (by first | omega | go_size)).trans (by first | (with_reducible assumption) | (go_simp; done) | (simp [*]; done))
    have hk5_1 : w.heap.size + 1 < W5.heap.size := by omega
    have hl5_2_0 : W5.cell? ⟨W2.heap.size, 0, none⟩ = some (u64 d) := (hc5 _ _ (by first | omega | go_size)).trans (by first | (with_reducible assumption) | go_cell)
    have hz5_2_0 : W5.frozen? ⟨W2.heap.size, 0, none⟩ = false := (hf5 _ _ (by first | omega | go_size)).trans (by first | (with_reducible assumption) | (go_simp; done) | (simp [*]; done))
    have hl5_2_1 : W5.cell? ⟨W2.heap.size, 1, none⟩ = some (u64 x) := (hc5 _ _ (by first | omega | go_size)).trans (by first | (with_reducible assumption) | go_cell)
    have hz5_2_1 : W5.frozen? ⟨W2.heap.size, 1, none⟩ = false := (hf5 _ _ (by first | omega | go_size)).trans (by first | (with_reducible assumption) | (go_simp; done) | (simp [*]; done))
    have hl5_2_2 : W5.cell? ⟨W2.heap.size, 2, none⟩ = some (u64 16) := (hc5 _ _ (by first | omega | go_size)).trans (by first | (with_reducible assumption) | go_cell)
    have hz5_2_2 : W5.frozen? ⟨W2.heap.size, 2, none⟩ = false := (hf5 _ _ (by first | omega | go_size)).trans (by first | (with_reducible assumption) | (go_simp; done) | (simp [*]; done))
    have hl5_2_3 : W5.cell? ⟨W2.heap.size, 3, none⟩ = some (u64 v) := (hc5 _ _ (by first | omega | go_size)).trans (by first | (with_reducible assumption) | go_cell)
    have hz5_2_3 : W5.frozen? ⟨W2.heap.size, 3, none⟩ = false := (hf5 _ _ (by first | omega | go_size)).trans (by first | (with_reducible assumption) | (go_simp; done) | (simp [*]; done))
    have hl5_2_4 : W5.cell? ⟨W2.heap.size, 4, none⟩ = some (u64 y) := (hc5 _ _ (by first | omega | go_size)).trans (by first | (with_reducible assumption) | go_cell)
    have hz5_2_4 : W5.frozen? ⟨W2.heap.size, 4, none⟩ = false := (hf5 _ _ (by first | omega | go_size)).trans (by first | (with_reducible assumption) | (go_simp; done) | (simp [*]; done))
    have hl5_2_5 : W5.cell? ⟨W2.heap.size, 5, none⟩ = some (u64 t) := (hc5 _ _ (by first | omega | go_size)).trans (by first | (with_reducible assumption) | go_cell)
    have hz5_2_5 : W5.frozen? ⟨W2.heap.size, 5, none⟩ = false := (hf5 _ _ (by first | omega | go_size)).trans (by first | (with_reducible assumption) | (go_simp; done) | (simp [*]; done))
    have hl5_2_6 : W5.cell? ⟨W2.heap.size, 6, none⟩ = some (u64 0) := (hc5 _ _ (by first | omega | go_size)).trans (by first | (with_reducible assumption) | go_cell)
    have hz5_2_6 : W5.frozen? ⟨W2.heap.size, 6, none⟩ = false := (hf5 _ _ (by first | omega | go_size)).trans (by first | (with_reducible assumption) | (go_simp; done) | (simp [*]; done))
    have hl5_2_7 : W5.cell? ⟨W2.heap.size, 7, none⟩ = some (u64 z) := (hc5 _ _ (by first | omega | go_size)).trans (by first | (with_reducible assumption) | go_cell)
    have hz5_2_7 : W5.frozen? ⟨W2.heap.size, 7, none⟩ = false := (hf5 _ _ (by first | omega | go_size)).trans (by first | (with_reducible assumption) | (go_simp; done) | (simp [*]; done))
    have hl5_2_8 : W5.cell? ⟨W2.heap.size, 8, none⟩ = some (u64 4) := (hc5 _ _ (by first | omega | go_size)).trans (by first | (with_reducible assumption) | go_cell)
    have hz5_2_8 : W5.frozen? ⟨W2.heap.size, 8, none⟩ = false := (hf5 _ _ (by first | omega | go_size)).trans (by first | (with_reducible assumption) | (go_simp; done) | (simp [*]; done))
    have hk5_2 : W2.heap.size < W5.heap.size := by omega
    have hl5_3_0 : W5.cell? ⟨W4.heap.size, 0, none⟩ = some (u64 0) := (hc5 _ _ (by first | omega | go_size)).trans (by first | (with_reducible assumption) | go_cell)
    have hz5_3_0 : W5.frozen? ⟨W4.heap.size, 0, none⟩ = false := (hf5 _ _ (by first | omega | go_size)).trans (by first | (with_reducible assumption) | (go_simp; done) | (simp [*]; done))
    have hl5_3_1 : W5.cell? ⟨W4.heap.size, 1, none⟩ = some (u64 z) := (hc5 _ _ (by first | omega | go_size)).trans (by first | (with_reducible assumption) | go_cell)
    have hz5_3_1 : W5.frozen? ⟨W4.heap.size, 1, none⟩ = false := (hf5 _ _ (by first | omega | go_size)).trans (by first | (with_reducible assumption) | (go_simp; done) | (simp [*]; done))
    have hl5_3_2 : W5.cell? ⟨W4.heap.size, 2, none⟩ = some (u64 4) := (hc5 _ _ (by first | omega | go_size)).trans (by first | (with_reducible assumption) | go_cell)
    have hz5_3_2 : W5.frozen? ⟨W4.heap.size, 2, none⟩ = false := (hf5 _ _ (by first | omega | go_size)).trans (by first | (with_reducible assumption) | (go_simp; done) | (simp [*]; done))
    have hk5_3 : W4.heap.size < W5.heap.size := by omega
    clear hg5 hc5 hf5
    go_wp2_with fail
    refine Lib.bodyPost_at5 (B := w.heap.size) (w := w) (w.heap.size) (.bool false) (num 0) (u64 0) (u64 0) (u64 0) (.tuple #[ringV false 0 0 0 0, u64 0, num 2]) ?_ ?_ ?_ ?_ ?_ ?_ rfl ?_ (fun WG hWG => ⟨rfl, hWG⟩)
    · first | (with_reducible assumption) | go_cell | (go_simp; done) | (simp [*]; done)
    · first | (with_reducible assumption) | go_cell | (go_simp; done) | (simp [*]; done)
    · first | (with_reducible assumption) | go_cell | (go_simp; done) | (simp [*]; done)
    · first | (with_reducible assumption) | go_cell | (go_simp; done) | (simp [*]; done)
    · first | (with_reducible assumption) | go_cell | (go_simp; done) | (simp [*]; done)
    · go_grown
    · intro WG qr0 qr1 qr2 qr3 qr4
      simp [results, Try.results71, go_sem, qr0, qr1, qr2, qr3, qr4]
  have wz : IntKind.u64.wrap (e + z) = w64 (e + z) := rfl
  obtain ⟨n3, hn3⟩ : ∃ n3, w64 (e + z) = n3 := ⟨_, rfl⟩
  have hq := HQ.out
  simp only [hn3, if_true] at hq wz
  clear hn3 HQ
  have wl : IntKind.u64.wrap (n3 - 1) = w64 (n3 - 1) := rfl
  have wm : IntKind.u64.wrap (n3 - b) = w64 (n3 - b) := rfl
  obtain ⟨n4, hn4⟩ : ∃ m, w64 (n3 - 1) = m := ⟨_, rfl⟩
  obtain ⟨n5, hn5⟩ : ∃ m, w64 (n3 - b) = m := ⟨_, rfl⟩
  simp only [hn4, hn5] at hq wl wm
  clear hn4 hn5
  refine (s_align_g n2 4 e 0 HN2.out p2_4 HA3.out _).mono ?_
  rintro eE W5 ⟨rfl, hg5⟩
  have hb5 : Below w.heap.size w W5 := (show Below w.heap.size w _ by go_grown).trans (hg5.mono (by first | omega | go_size))
  obtain ⟨hc5, hf5⟩ := bcell hg5
  have hs5 := hg5.size
  try simp only [World.size_alloc, World.size_setCell, World.size_drew] at hs5
  have hl5_0_0 : W5.cell? ⟨w.heap.size, 0, none⟩ = some (.bool false) := (hc5 _ _ (by first | omega | go_size)).trans (by first | (with_reducible assumption) | go_cell)
  have hz5_0_0 : W5.frozen? ⟨w.heap.size, 0, none⟩ = false := (hf5 _ _ (by first | omega | go_size)).trans (by first | (with_reducible assumption) | (go_simp; done) | (simp [*]; done))
  have hl5_0_1 : W5.cell? ⟨w.heap.size, 1, none⟩ = some (num 0) := (hc5 _ _ (by first | omega | go_size)).trans (by first | (with_reducible assumption) | go_cell)
  have hz5_0_1 : W5.frozen? ⟨w.heap.size, 1, none⟩ = false := (hf5 _ _ (by first | omega | go_size)).trans (by first | (with_reducible assumption) | (go_simp; done) | (simp [*]; done))
  have hl5_0_2 : W5.cell? ⟨w.heap.size, 2, none⟩ = some (u64 0) := (hc5 _ _ (by first | omega | go_size)).trans (by first | (with_reducible assumption) | go_cell)
  have hz5_0_2 : W5.frozen? ⟨w.heap.size, 2, none⟩ = false := (hf5 _ _ (by first | omega | go_size)).trans (by first | (with_reducible assumption) | (go_simp; done) | (simp [*]; done))
  have hl5_0_3 : W5.cell? ⟨w.heap.size, 3, none⟩ = some (u64 0) := (hc5 _ _ (by first | omega | go_size)).trans (by first | (with_reducible assumption) | go_cell)
  have hz5_0_3 : W5.frozen? ⟨w.heap.size, 3, none⟩ = false := (hf5 _ _ (by first | omega | go_size)).trans (by first | (with_reducible assumption) | (go_simp; done) | (simp [*]; done))
  have hl5_0_4 : W5.cell? ⟨w.heap.size, 4, none⟩ = some (u64 0) := (hc5 _ _ (by first | omega | go_size)).trans (by first | (with_reducible assumption) | go_cell)
  have hz5_0_4 : W5.frozen? ⟨w.heap.size, 4, none⟩ = false := (hf5 _ _ (by first | omega | go_size)).trans (by first | (with_reducible assumption) | (go_simp; done) | (simp [*]; done))
  have hk5_0 : w.heap.size < W5.heap.size := by omega
  have hl5_1_0 : W5.cell? ⟨w.heap.size + 1, 0, none⟩ = some (.bool p) := (hc5 _ _ (by first | omega | go_size)).trans (by first | (with_reducible assumption) | go_cell)
  have hz5_1_0 : W5.frozen? ⟨w.heap.size + 1, 0, none⟩ = false := (hf5 _ _ (by first | omega | go_size)).trans (by first | (with_reducible assumption) | (go_simp; done) | (simp [*]; done))
  have hl5_1_1 : W5.cell? ⟨w.heap.size + 1, 1, none⟩ = some (num n) := (hc5 _ _ (by first | omega | go_size)).trans (by first | (with_reducible assumption) | go_cell)
  have hz5_1_1 : W5.frozen? ⟨w.heap.size + 1, 1, none⟩ = false := (hf5 _ _ (by first | omega | go_size)).trans (by first | (with_reducible assumption) | (go_simp; done) | (simp [*]; done))
  have hl5_1_2 : W5.cell? ⟨w.heap.size + 1, 2, none⟩ = some (u64 0) := (hc5 _ _ (by first | omega | go_size)).trans (by first | (with_reducible assumption) | go_cell)
  have hz5_1_2 : W5.frozen? ⟨w.heap.size + 1, 2, none⟩ = false := (hf5 _ _ (by first | omega | go_size)).trans (by first | (with_reducible assumption) | (go_simp; done) | (simp [*]; done))
  have hl5_1_3 : W5.cell? ⟨w.heap.size + 1, 3, none⟩ = some (u64 0) := (hc5 _ _ (by first | omega | go_size)).trans (by first | (with_reducible assumption) | go_cell)
  have hz5_1_3 : W5.frozen? ⟨w.heap.size + 1, 3, none⟩ = false := (hf5 _ _ (by first | omega | go_size)).trans (by first | (with_reducible assumption) | (go_simp; done) | (simp [*]; done))
  have hl5_1_4 : W5.cell? ⟨w.heap.size + 1, 4, none⟩ = some (u64 0) := (hc5 _ _ (by first | omega | go_size)).trans (by first | (with_reducible assumption) | go_cell)
  have hz5_1_4 : W5.frozen? ⟨w.heap.size + 1, 4, none⟩ = false := (hf5 _ _ (by first | omega | go_size)).trans (by first | (with_reducible assumption) | (go_simp; done) | (simp [*]; done))
  have hk5_1 : w.heap.size + 1 < W5.heap.size := by omega
  have hl5_2_0 : W5.cell? ⟨W2.heap.size, 0, none⟩ = some (u64 d) := (hc5 _ _ (by first | omega | go_size)).trans (by first | (with_reducible assumption) | go_cell)
  have hz5_2_0 : W5.frozen? ⟨W2.heap.size, 0, none⟩ = false := (hf5 _ _ (by first | omega | go_size)).trans (by first | (with_reducible assumption) | (go_simp; done) | (simp [*]; done))
  have hl5_2_1 : W5.cell? ⟨W2.heap.size, 1, none⟩ = some (u64 x) := (hc5 _ _ (by first | omega | go_size)).trans (by first | (with_reducible assumption) | go_cell)
  have hz5_2_1 : W5.frozen? ⟨W2.heap.size, 1, none⟩ = false := (hf5 _ _ (by first | omega | go_size)).trans (by first | (with_reducible assumption) | (go_simp; done) | (simp [*]; done))
  have hl5_2_2 : W5.cell? ⟨W2.heap.size, 2, none⟩ = some (u64 16) := (hc5 _ _ (by first | omega | go_size)).trans (by first | (with_reducible assumption) | go_cell)
  have hz5_2_2 : W5.frozen? ⟨W2.heap.size, 2, none⟩ = false := (hf5 _ _ (by first | omega | go_size)).trans (by first | (with_reducible assumption) | (go_simp; done) | (simp [*]; done))
  have hl5_2_3 : W5.cell? ⟨W2.heap.size, 3, none⟩ = some (u64 v) := (hc5 _ _ (by first | omega | go_size)).trans (by first | (with_reducible assumption) | go_cell)
  have hz5_2_3 : W5.frozen? ⟨W2.heap.size, 3, none⟩ = false := (hf5 _ _ (by first | omega | go_size)).trans (by first | (with_reducible assumption) | (go_simp; done) | (simp [*]; done))
  have hl5_2_4 : W5.cell? ⟨W2.heap.size, 4, none⟩ = some (u64 y) := (hc5 _ _ (by first | omega | go_size)).trans (by first | (with_reducible assumption) | go_cell)
  have hz5_2_4 : W5.frozen? ⟨W2.heap.size, 4, none⟩ = false := (hf5 _ _ (by first | omega | go_size)).trans (by first | (with_reducible assumption) | (go_simp; done) | (simp [*]; done))
  have hl5_2_5 : W5.cell? ⟨W2.heap.size, 5, none⟩ = some (u64 t) := (hc5 _ _ (by first | omega | go_size)).trans (by first | (with_reducible assumption) | go_cell)
  have hz5_2_5 : W5.frozen? ⟨W2.heap.size, 5, none⟩ = false := (hf5 _ _ (by first | omega | go_size)).trans (by first | (with_reducible assumption) | (go_simp; done) | (simp [*]; done))
  have hl5_2_6 : W5.cell? ⟨W2.heap.size, 6, none⟩ = some (u64 0) := (hc5 _ _ (by first | omega | go_size)).trans (by first | (with_reducible assumption) | go_cell)
  have hz5_2_6 : W5.frozen? ⟨W2.heap.size, 6, none⟩ = false := (hf5 _ _ (by first | omega | go_size)).trans (by first | (with_reducible assumption) | (go_simp; done) | (simp [*]; done))
  have hl5_2_7 : W5.cell? ⟨W2.heap.size, 7, none⟩ = some (u64 z) := (hc5 _ _ (by first | omega | go_size)).trans (by first | (with_reducible assumption) | go_cell)
  have hz5_2_7 : W5.frozen? ⟨W2.heap.size, 7, none⟩ = false := (hf5 _ _ (by first | omega | go_size)).trans (by first | (with_reducible assumption) | (go_simp; done) | (simp [*]; done))
  have hl5_2_8 : W5.cell? ⟨W2.heap.size, 8, none⟩ = some (u64 4) := (hc5 _ _ (by first | omega | go_size)).trans (by first | (with_reducible assumption) | go_cell)
  have hz5_2_8 : W5.frozen? ⟨W2.heap.size, 8, none⟩ = false := (hf5 _ _ (by first | omega | go_size)).trans (by first | (with_reducible assumption) | (go_simp; done) | (simp [*]; done))
  have hk5_2 : W2.heap.size < W5.heap.size := by omega
  have hl5_3_0 : W5.cell? ⟨W4.heap.size, 0, none⟩ = some (u64 0) := (hc5 _ _ (by first | omega | go_size)).trans (by first | (with_reducible assumption) | go_cell)
  have hz5_3_0 : W5.frozen? ⟨W4.heap.size, 0, none⟩ = false := (hf5 _ _ (by first | omega | go_size)).trans (by first | (with_reducible assumption) | (go_simp; done) | (simp [*]; done))
  have hl5_3_1 : W5.cell? ⟨W4.heap.size, 1, none⟩ = some (u64 z) := (hc5 _ _ (by first | omega | go_size)).trans (by first | (with_reducible assumption) | go_cell)
  have hz5_3_1 : W5.frozen? ⟨W4.heap.size, 1, none⟩ = false := (hf5 _ _ (by first | omega | go_size)).trans (by first | (with_reducible assumption) | (go_simp; done) | (simp [*]; done))
  have hl5_3_2 : W5.cell? ⟨W4.heap.size, 2, none⟩ = some (u64 4) := (hc5 _ _ (by first | omega | go_size)).trans (by first | (with_reducible assumption) | go_cell)
  have hz5_3_2 : W5.frozen? ⟨W4.heap.size, 2, none⟩ = false := (hf5 _ _ (by first | omega | go_size)).trans (by first | (with_reducible assumption) | (go_simp; done) | (simp [*]; done))
  have hk5_3 : W4.heap.size < W5.heap.size := by omega
  clear hg5 hc5 hf5
  go_wp2_with fail
  rw [rounds_succ]
  by_cases hlt : n4 < b
  · rw [if_pos hlt] at hq
    subst hq
    go_wp2_with fail
    refine Lib.bodyPost_at5 (B := w.heap.size) (w := w) (w.heap.size) (.bool false) (num 0) (u64 0) (u64 0) (u64 0) (.tuple #[ringV false 0 0 0 0, u64 0, num 2]) ?_ ?_ ?_ ?_ ?_ ?_ rfl ?_ (fun WG hWG => ⟨rfl, hWG⟩)
    · first | (with_reducible assumption) | go_cell | (go_simp; done) | (simp [*]; done)
    · first | (with_reducible assumption) | go_cell | (go_simp; done) | (simp [*]; done)
    · first | (with_reducible assumption) | go_cell | (go_simp; done) | (simp [*]; done)
    · first | (with_reducible assumption) | go_cell | (go_simp; done) | (simp [*]; done)
    · first | (with_reducible assumption) | go_cell | (go_simp; done) | (simp [*]; done)
    · go_grown
    · intro WG qr0 qr1 qr2 qr3 qr4
      simp [results, Try.results71, go_sem, qr0, qr1, qr2, qr3, qr4]
  · rw [if_neg hlt] at hq
    subst hq
    go_wp2_with fail
    go_region
    go_wp2_with fail
    refine Lib.bodyPost_at5 (B := w.heap.size) (w := w) (w.heap.size) (.bool p) (num n) (u64 d) (u64 v) (u64 e) (.tuple #[ringV p n d v e, u64 n5, num 0]) ?_ ?_ ?_ ?_ ?_ ?_ rfl ?_ (fun WG hWG => ⟨rfl, hWG⟩)
    · first | (with_reducible assumption) | go_cell | (go_simp; done) | (simp [*]; done)
    · first | (with_reducible assumption) | go_cell | (go_simp; done) | (simp [*]; done)
    · first | (with_reducible assumption) | go_cell | (go_simp; done) | (simp [*]; done)
    · first | (with_reducible assumption) | go_cell | (go_simp; done) | (simp [*]; done)
    · first | (with_reducible assumption) | go_cell | (go_simp; done) | (simp [*]; done)
    · go_grown
    · intro WG qr0 qr1 qr2 qr3 qr4
      simp [results, Try.results71, go_sem, qr0, qr1, qr2, qr3, qr4]

end Go.Proofs.Ytkncaafjkoeijaa.Lay
