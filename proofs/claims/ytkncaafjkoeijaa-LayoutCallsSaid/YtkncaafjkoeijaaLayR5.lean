
/- Place of rings, the document's own answer. -/
import Derived.Test.YtkncaafjkoeijaaLayPl
import Derived.Test.YtkncaafjkoeijaaLayR3
namespace Go.Proofs.Ytkncaafjkoeijaa.Lay
open Go.RowKit Ser
set_option linter.unusedVariables false
set_option linter.unusedSimpArgs false

theorem r_align_g (n t a e : Int) (hn : u64in n) (hP : P2 t) (h : alignR n t = (a, e)) (w : World) : Calls Try.prog 118 #[u64 n, u64 t] w (Gives w.heap.size w (.tuple #[u64 a, num e])) :=
  (r_align_is n t a e hn hP h w).mono fun _ _ h => ⟨h.1, h.2 ▸ Below.refl _ _⟩

set_option maxRecDepth 100000 in
set_option maxHeartbeats 16000000 in
theorem r_place_is (p : Bool) (n b : Int) (r : PlaceT) (hb : u64in b) (h : placeI p n b = r) (w : World) :
    Calls Try.prog 72 #[.bool p, num n, u64 b] w (Gives w.heap.size w (.tuple #[ringV r.1 r.2.1 r.2.2.1 r.2.2.2.1 r.2.2.2.2.1, u64 r.2.2.2.2.2.1, num r.2.2.2.2.2.2])) := by
  unfold Gives
  have hb0 : Below w.heap.size w w := Below.refl _ _
  cases hs : sizeB p n with
  | false =>
    obtain rfl : r = noPlace := by rw [← h]; unfold placeI; rw [hs]; rfl
    have HP := Lib.hid (show partsI p n = (0, 0, 0) from by unfold partsI; rw [hs]; rfl)
    clear h hs
    go_enter Try.func72, Try.ntmps72
    go_wp2_with fail
    refine (r_parts_is p n 0 0 0 0 0 0 HP.out _).mono ?_
    rintro eE W1 ⟨rfl, hg1⟩
    have hb1 : Below w.heap.size w W1 := (show Below w.heap.size w _ by go_grown).trans (hg1.mono (by first | omega | go_size))
    obtain ⟨hc1, hf1⟩ := bcell hg1
    have hs1 := hg1.size
    try simp only [World.size_alloc, World.size_setCell, World.size_drew] at hs1
    have hl1_0_0 : W1.cell? ⟨w.heap.size, 0, none⟩ = some (.bool false) := (hc1 _ _ (by first | omega | go_size)).trans (by first | (with_reducible assumption) | go_cell)
    have hz1_0_0 : W1.frozen? ⟨w.heap.size, 0, none⟩ = false := (hf1 _ _ (by first | omega | go_size)).trans (by first | (with_reducible assumption) | (go_simp; done) | (simp [*]; done))
    have hl1_0_1 : W1.cell? ⟨w.heap.size, 1, none⟩ = some (num 0) := (hc1 _ _ (by first | omega | go_size)).trans (by first | (with_reducible assumption) | go_cell)
    have hz1_0_1 : W1.frozen? ⟨w.heap.size, 1, none⟩ = false := (hf1 _ _ (by first | omega | go_size)).trans (by first | (with_reducible assumption) | (go_simp; done) | (simp [*]; done))
    have hl1_0_2 : W1.cell? ⟨w.heap.size, 2, none⟩ = some (u64 0) := (hc1 _ _ (by first | omega | go_size)).trans (by first | (with_reducible assumption) | go_cell)
    have hz1_0_2 : W1.frozen? ⟨w.heap.size, 2, none⟩ = false := (hf1 _ _ (by first | omega | go_size)).trans (by first | (with_reducible assumption) | (go_simp; done) | (simp [*]; done))
    have hl1_0_3 : W1.cell? ⟨w.heap.size, 3, none⟩ = some (u64 0) := (hc1 _ _ (by first | omega | go_size)).trans (by first | (with_reducible assumption) | go_cell)
    have hz1_0_3 : W1.frozen? ⟨w.heap.size, 3, none⟩ = false := (hf1 _ _ (by first | omega | go_size)).trans (by first | (with_reducible assumption) | (go_simp; done) | (simp [*]; done))
    have hl1_0_4 : W1.cell? ⟨w.heap.size, 4, none⟩ = some (u64 0) := (hc1 _ _ (by first | omega | go_size)).trans (by first | (with_reducible assumption) | go_cell)
    have hz1_0_4 : W1.frozen? ⟨w.heap.size, 4, none⟩ = false := (hf1 _ _ (by first | omega | go_size)).trans (by first | (with_reducible assumption) | (go_simp; done) | (simp [*]; done))
    have hk1_0 : w.heap.size < W1.heap.size := by omega
    have hl1_1_0 : W1.cell? ⟨w.heap.size + 1, 0, none⟩ = some (.bool p) := (hc1 _ _ (by first | omega | go_size)).trans (by first | (with_reducible assumption) | go_cell)
    have hz1_1_0 : W1.frozen? ⟨w.heap.size + 1, 0, none⟩ = false := (hf1 _ _ (by first | omega | go_size)).trans (by first | (with_reducible assumption) | (go_simp; done) | (simp [*]; done))
    have hl1_1_1 : W1.cell? ⟨w.heap.size + 1, 1, none⟩ = some (num n) := (hc1 _ _ (by first | omega | go_size)).trans (by first | (with_reducible assumption) | go_cell)
    have hz1_1_1 : W1.frozen? ⟨w.heap.size + 1, 1, none⟩ = false := (hf1 _ _ (by first | omega | go_size)).trans (by first | (with_reducible assumption) | (go_simp; done) | (simp [*]; done))
    have hl1_1_2 : W1.cell? ⟨w.heap.size + 1, 2, none⟩ = some (u64 0) := (hc1 _ _ (by first | omega | go_size)).trans (by first | (with_reducible assumption) | go_cell)
    have hz1_1_2 : W1.frozen? ⟨w.heap.size + 1, 2, none⟩ = false := (hf1 _ _ (by first | omega | go_size)).trans (by first | (with_reducible assumption) | (go_simp; done) | (simp [*]; done))
    have hl1_1_3 : W1.cell? ⟨w.heap.size + 1, 3, none⟩ = some (u64 0) := (hc1 _ _ (by first | omega | go_size)).trans (by first | (with_reducible assumption) | go_cell)
    have hz1_1_3 : W1.frozen? ⟨w.heap.size + 1, 3, none⟩ = false := (hf1 _ _ (by first | omega | go_size)).trans (by first | (with_reducible assumption) | (go_simp; done) | (simp [*]; done))
    have hl1_1_4 : W1.cell? ⟨w.heap.size + 1, 4, none⟩ = some (u64 0) := (hc1 _ _ (by first | omega | go_size)).trans (by first | (with_reducible assumption) | go_cell)
    have hz1_1_4 : W1.frozen? ⟨w.heap.size + 1, 4, none⟩ = false := (hf1 _ _ (by first | omega | go_size)).trans (by first | (with_reducible assumption) | (go_simp; done) | (simp [*]; done))
    have hk1_1 : w.heap.size + 1 < W1.heap.size := by omega
    clear hg1 hc1 hf1
    go_wp2_with fail
    refine Lib.bodyPost_at5 (B := w.heap.size) (w := w) (w.heap.size) (.bool false) (num 0) (u64 0) (u64 0) (u64 0) (.tuple #[ringV false 0 0 0 0, u64 0, num 2]) ?_ ?_ ?_ ?_ ?_ ?_ rfl ?_ (fun WG hWG => ⟨rfl, hWG⟩)
    · first | (with_reducible assumption) | go_cell | (go_simp; done) | (simp [*]; done)
    · first | (with_reducible assumption) | go_cell | (go_simp; done) | (simp [*]; done)
    · first | (with_reducible assumption) | go_cell | (go_simp; done) | (simp [*]; done)
    · first | (with_reducible assumption) | go_cell | (go_simp; done) | (simp [*]; done)
    · first | (with_reducible assumption) | go_cell | (go_simp; done) | (simp [*]; done)
    · go_grown
    · intro WG qr0 qr1 qr2 qr3 qr4
      simp [results, Try.results72, go_sem, qr0, qr1, qr2, qr3, qr4]
  | true =>
  obtain ⟨x, y, z, hp⟩ : ∃ x y z, partsI p n = (x, y, z) := ⟨_, _, _, rfl⟩
  have hin := parts_in hs hp
  have x0 : (x == 0) = false := by simp; omega
  obtain ⟨d, f1, h1⟩ : ∃ q f, alignR b 16 = (q, f) := ⟨_, _, rfl⟩
  obtain ⟨v, f2, h2⟩ : ∃ q f, alignR (w64 (d + x)) (toI p) = (q, f) := ⟨_, _, rfl⟩
  obtain ⟨e, f3, h3⟩ : ∃ q f, alignR (w64 (v + y)) 4 = (q, f) := ⟨_, _, rfl⟩
  have hr := place_ref hb hs hp rfl h1 h2 h3
  rw [h] at hr
  have hr := hr.symm
  have F1 : f1 = 0 ∨ f1 = 2 := by rcases alignR_two b 16 with g | g <;> rw [h1] at g <;> simp at g <;> omega
  have F2 : f2 = 0 ∨ f2 = 2 := by rcases alignR_two (w64 (d + x)) (toI p) with g | g <;> rw [h2] at g <;> simp at g <;> omega
  have F3 : f3 = 0 ∨ f3 = 2 := by rcases alignR_two (w64 (v + y)) 4 with g | g <;> rw [h3] at g <;> simp at g <;> omega
  have ht1 : 1 ≤ toI p := by unfold toI; split <;> omega
  have HD := Lib.hid (alignR_in hb (by omega) h1)
  have HV := Lib.hid (alignR_in (w64_in _) ht1 h2)
  have HE := Lib.hid (alignR_in (w64_in _) (by omega) h3)
  have HB := Lib.hid hb
  have HP := Lib.hid hp
  obtain ⟨n1, hn1⟩ : ∃ q, w64 (d + x) = q := ⟨_, rfl⟩
  obtain ⟨n2, hn2⟩ : ∃ q, w64 (v + y) = q := ⟨_, rfl⟩
  obtain ⟨s3, hs3⟩ : ∃ q, w64 (e + (z - 1)) = q := ⟨_, rfl⟩
  obtain ⟨n4, hn4⟩ : ∃ q, w64 (e + z) = q := ⟨_, rfl⟩
  obtain ⟨n5, hn5⟩ : ∃ q, w64 (n4 - b) = q := ⟨_, rfl⟩
  have HN1 := Lib.hid (show u64in n1 from hn1 ▸ w64_in _)
  have HN2 := Lib.hid (show u64in n2 from hn2 ▸ w64_in _)
  have wx : IntKind.u64.wrap (d + x) = n1 := hn1
  have wy : IntKind.u64.wrap (v + y) = n2 := hn2
  have wz : IntKind.u64.wrap (e + (z - 1)) = s3 := hs3
  have ww : IntKind.u64.wrap (e + z) = n4 := hn4
  have wn : IntKind.u64.wrap (n4 - b) = n5 := hn5
  rw [hn1] at h2
  rw [hn2] at h3
  have E1 := Lib.hid hn1
  have E2 := Lib.hid hn2
  have E3 := Lib.hid hs3
  have E4 := Lib.hid hn4
  have E5 := Lib.hid hn5
  have HA1 := Lib.hid h1
  have HA2 := Lib.hid h2
  have HA3 := Lib.hid h3
  have hb1 := hb.1
  clear h hs hp h1 h2 h3 hn1 hn2 hs3 hn4 hn5 hb ht1
  cases p with
  | true =>
    have hr : (if badPlace true n d f1 v f2 e f3 x y z = true then noPlace else (true, n, d, v, e, w64 (w64 (e + z) - b), 0)) = r := hr
    go_enter Try.func72, Try.ntmps72
    go_wp2_with fail
    refine (r_parts_is true n 0 0 0 x y z HP.out _).mono ?_
    rintro eE W1 ⟨rfl, hg1⟩
    have hb1 : Below w.heap.size w W1 := (show Below w.heap.size w _ by go_grown).trans (hg1.mono (by first | omega | go_size))
    obtain ⟨hc1, hf1⟩ := bcell hg1
    have hs1 := hg1.size
    try simp only [World.size_alloc, World.size_setCell, World.size_drew] at hs1
    have hl1_0_0 : W1.cell? ⟨w.heap.size, 0, none⟩ = some (.bool false) := (hc1 _ _ (by first | omega | go_size)).trans (by first | (with_reducible assumption) | go_cell)
    have hz1_0_0 : W1.frozen? ⟨w.heap.size, 0, none⟩ = false := (hf1 _ _ (by first | omega | go_size)).trans (by first | (with_reducible assumption) | (go_simp; done) | (simp [*]; done))
    have hl1_0_1 : W1.cell? ⟨w.heap.size, 1, none⟩ = some (num 0) := (hc1 _ _ (by first | omega | go_size)).trans (by first | (with_reducible assumption) | go_cell)
    have hz1_0_1 : W1.frozen? ⟨w.heap.size, 1, none⟩ = false := (hf1 _ _ (by first | omega | go_size)).trans (by first | (with_reducible assumption) | (go_simp; done) | (simp [*]; done))
    have hl1_0_2 : W1.cell? ⟨w.heap.size, 2, none⟩ = some (u64 0) := (hc1 _ _ (by first | omega | go_size)).trans (by first | (with_reducible assumption) | go_cell)
    have hz1_0_2 : W1.frozen? ⟨w.heap.size, 2, none⟩ = false := (hf1 _ _ (by first | omega | go_size)).trans (by first | (with_reducible assumption) | (go_simp; done) | (simp [*]; done))
    have hl1_0_3 : W1.cell? ⟨w.heap.size, 3, none⟩ = some (u64 0) := (hc1 _ _ (by first | omega | go_size)).trans (by first | (with_reducible assumption) | go_cell)
    have hz1_0_3 : W1.frozen? ⟨w.heap.size, 3, none⟩ = false := (hf1 _ _ (by first | omega | go_size)).trans (by first | (with_reducible assumption) | (go_simp; done) | (simp [*]; done))
    have hl1_0_4 : W1.cell? ⟨w.heap.size, 4, none⟩ = some (u64 0) := (hc1 _ _ (by first | omega | go_size)).trans (by first | (with_reducible assumption) | go_cell)
    have hz1_0_4 : W1.frozen? ⟨w.heap.size, 4, none⟩ = false := (hf1 _ _ (by first | omega | go_size)).trans (by first | (with_reducible assumption) | (go_simp; done) | (simp [*]; done))
    have hk1_0 : w.heap.size < W1.heap.size := by omega
    have hl1_1_0 : W1.cell? ⟨w.heap.size + 1, 0, none⟩ = some (.bool true) := (hc1 _ _ (by first | omega | go_size)).trans (by first | (with_reducible assumption) | go_cell)
    have hz1_1_0 : W1.frozen? ⟨w.heap.size + 1, 0, none⟩ = false := (hf1 _ _ (by first | omega | go_size)).trans (by first | (with_reducible assumption) | (go_simp; done) | (simp [*]; done))
    have hl1_1_1 : W1.cell? ⟨w.heap.size + 1, 1, none⟩ = some (num n) := (hc1 _ _ (by first | omega | go_size)).trans (by first | (with_reducible assumption) | go_cell)
    have hz1_1_1 : W1.frozen? ⟨w.heap.size + 1, 1, none⟩ = false := (hf1 _ _ (by first | omega | go_size)).trans (by first | (with_reducible assumption) | (go_simp; done) | (simp [*]; done))
    have hl1_1_2 : W1.cell? ⟨w.heap.size + 1, 2, none⟩ = some (u64 0) := (hc1 _ _ (by first | omega | go_size)).trans (by first | (with_reducible assumption) | go_cell)
    have hz1_1_2 : W1.frozen? ⟨w.heap.size + 1, 2, none⟩ = false := (hf1 _ _ (by first | omega | go_size)).trans (by first | (with_reducible assumption) | (go_simp; done) | (simp [*]; done))
    have hl1_1_3 : W1.cell? ⟨w.heap.size + 1, 3, none⟩ = some (u64 0) := (hc1 _ _ (by first | omega | go_size)).trans (by first | (with_reducible assumption) | go_cell)
    have hz1_1_3 : W1.frozen? ⟨w.heap.size + 1, 3, none⟩ = false := (hf1 _ _ (by first | omega | go_size)).trans (by first | (with_reducible assumption) | (go_simp; done) | (simp [*]; done))
    have hl1_1_4 : W1.cell? ⟨w.heap.size + 1, 4, none⟩ = some (u64 0) := (hc1 _ _ (by first | omega | go_size)).trans (by first | (with_reducible assumption) | go_cell)
    have hz1_1_4 : W1.frozen? ⟨w.heap.size + 1, 4, none⟩ = false := (hf1 _ _ (by first | omega | go_size)).trans (by first | (with_reducible assumption) | (go_simp; done) | (simp [*]; done))
    have hk1_1 : w.heap.size + 1 < W1.heap.size := by omega
    clear hg1 hc1 hf1
    go_wp2_with fail
    refine (r_align_g b 16 d f1 HB.out p2_16 HA1.out _).mono ?_
    rintro eE W2 ⟨rfl, hg2⟩
    have hb2 : Below w.heap.size w W2 := (show Below w.heap.size w _ by go_grown).trans (hg2.mono (by first | omega | go_size))
    obtain ⟨hc2, hf2⟩ := bcell hg2
    have hs2 := hg2.size
    try simp only [World.size_alloc, World.size_setCell, World.size_drew] at hs2
    have hl2_0_0 : W2.cell? ⟨w.heap.size, 0, none⟩ = some (.bool false) := (hc2 _ _ (by first | omega | go_size)).trans (by first | (with_reducible assumption) | go_cell)
    have hz2_0_0 : W2.frozen? ⟨w.heap.size, 0, none⟩ = false := (hf2 _ _ (by first | omega | go_size)).trans (by first | (with_reducible assumption) | (go_simp; done) | (simp [*]; done))
    have hl2_0_1 : W2.cell? ⟨w.heap.size, 1, none⟩ = some (num 0) := (hc2 _ _ (by first | omega | go_size)).trans (by first | (with_reducible assumption) | go_cell)
    have hz2_0_1 : W2.frozen? ⟨w.heap.size, 1, none⟩ = false := (hf2 _ _ (by first | omega | go_size)).trans (by first | (with_reducible assumption) | (go_simp; done) | (simp [*]; done))
    have hl2_0_2 : W2.cell? ⟨w.heap.size, 2, none⟩ = some (u64 0) := (hc2 _ _ (by first | omega | go_size)).trans (by first | (with_reducible assumption) | go_cell)
    have hz2_0_2 : W2.frozen? ⟨w.heap.size, 2, none⟩ = false := (hf2 _ _ (by first | omega | go_size)).trans (by first | (with_reducible assumption) | (go_simp; done) | (simp [*]; done))
    have hl2_0_3 : W2.cell? ⟨w.heap.size, 3, none⟩ = some (u64 0) := (hc2 _ _ (by first | omega | go_size)).trans (by first | (with_reducible assumption) | go_cell)
    have hz2_0_3 : W2.frozen? ⟨w.heap.size, 3, none⟩ = false := (hf2 _ _ (by first | omega | go_size)).trans (by first | (with_reducible assumption) | (go_simp; done) | (simp [*]; done))
    have hl2_0_4 : W2.cell? ⟨w.heap.size, 4, none⟩ = some (u64 0) := (hc2 _ _ (by first | omega | go_size)).trans (by first | (with_reducible assumption) | go_cell)
    have hz2_0_4 : W2.frozen? ⟨w.heap.size, 4, none⟩ = false := (hf2 _ _ (by first | omega | go_size)).trans (by first | (with_reducible assumption) | (go_simp; done) | (simp [*]; done))
    have hk2_0 : w.heap.size < W2.heap.size := by omega
    have hl2_1_0 : W2.cell? ⟨w.heap.size + 1, 0, none⟩ = some (.bool true) := (hc2 _ _ (by first | omega | go_size)).trans (by first | (with_reducible assumption) | go_cell)
    have hz2_1_0 : W2.frozen? ⟨w.heap.size + 1, 0, none⟩ = false := (hf2 _ _ (by first | omega | go_size)).trans (by first | (with_reducible assumption) | (go_simp; done) | (simp [*]; done))
    have hl2_1_1 : W2.cell? ⟨w.heap.size + 1, 1, none⟩ = some (num n) := (hc2 _ _ (by first | omega | go_size)).trans (by first | (with_reducible assumption) | go_cell)
    have hz2_1_1 : W2.frozen? ⟨w.heap.size + 1, 1, none⟩ = false := (hf2 _ _ (by first | omega | go_size)).trans (by first | (with_reducible assumption) | (go_simp; done) | (simp [*]; done))
    have hl2_1_2 : W2.cell? ⟨w.heap.size + 1, 2, none⟩ = some (u64 0) := (hc2 _ _ (by first | omega | go_size)).trans (by first | (with_reducible assumption) | go_cell)
    have hz2_1_2 : W2.frozen? ⟨w.heap.size + 1, 2, none⟩ = false := (hf2 _ _ (by first | omega | go_size)).trans (by first | (with_reducible assumption) | (go_simp; done) | (simp [*]; done))
    have hl2_1_3 : W2.cell? ⟨w.heap.size + 1, 3, none⟩ = some (u64 0) := (hc2 _ _ (by first | omega | go_size)).trans (by first | (with_reducible assumption) | go_cell)
    have hz2_1_3 : W2.frozen? ⟨w.heap.size + 1, 3, none⟩ = false := (hf2 _ _ (by first | omega | go_size)).trans (by first | (with_reducible assumption) | (go_simp; done) | (simp [*]; done))
    have hl2_1_4 : W2.cell? ⟨w.heap.size + 1, 4, none⟩ = some (u64 0) := (hc2 _ _ (by first | omega | go_size)).trans (by first | (with_reducible assumption) | go_cell)
    have hz2_1_4 : W2.frozen? ⟨w.heap.size + 1, 4, none⟩ = false := (hf2 _ _ (by first | omega | go_size)).trans (by first | (with_reducible assumption) | (go_simp; done) | (simp [*]; done))
    have hk2_1 : w.heap.size + 1 < W2.heap.size := by omega
    clear hg2 hc2 hf2
    go_wp2_with fail
    refine (r_align_g n1 4 v f2 HN1.out p2_4 HA2.out _).mono ?_
    rintro eE W3 ⟨rfl, hg3⟩
    have hb3 : Below w.heap.size w W3 := (show Below w.heap.size w _ by go_grown).trans (hg3.mono (by first | omega | go_size))
    obtain ⟨hc3, hf3⟩ := bcell hg3
    have hs3 := hg3.size
    try simp only [World.size_alloc, World.size_setCell, World.size_drew] at hs3
    have hl3_0_0 : W3.cell? ⟨w.heap.size, 0, none⟩ = some (.bool false) := (hc3 _ _ (by first | omega | go_size)).trans (by first | (with_reducible assumption) | go_cell)
    have hz3_0_0 : W3.frozen? ⟨w.heap.size, 0, none⟩ = false := (hf3 _ _ (by first | omega | go_size)).trans (by first | (with_reducible assumption) | (go_simp; done) | (simp [*]; done))
    have hl3_0_1 : W3.cell? ⟨w.heap.size, 1, none⟩ = some (num 0) := (hc3 _ _ (by first | omega | go_size)).trans (by first | (with_reducible assumption) | go_cell)
    have hz3_0_1 : W3.frozen? ⟨w.heap.size, 1, none⟩ = false := (hf3 _ _ (by first | omega | go_size)).trans (by first | (with_reducible assumption) | (go_simp; done) | (simp [*]; done))
    have hl3_0_2 : W3.cell? ⟨w.heap.size, 2, none⟩ = some (u64 0) := (hc3 _ _ (by first | omega | go_size)).trans (by first | (with_reducible assumption) | go_cell)
    have hz3_0_2 : W3.frozen? ⟨w.heap.size, 2, none⟩ = false := (hf3 _ _ (by first | omega | go_size)).trans (by first | (with_reducible assumption) | (go_simp; done) | (simp [*]; done))
    have hl3_0_3 : W3.cell? ⟨w.heap.size, 3, none⟩ = some (u64 0) := (hc3 _ _ (by first | omega | go_size)).trans (by first | (with_reducible assumption) | go_cell)
    have hz3_0_3 : W3.frozen? ⟨w.heap.size, 3, none⟩ = false := (hf3 _ _ (by first | omega | go_size)).trans (by first | (with_reducible assumption) | (go_simp; done) | (simp [*]; done))
    have hl3_0_4 : W3.cell? ⟨w.heap.size, 4, none⟩ = some (u64 0) := (hc3 _ _ (by first | omega | go_size)).trans (by first | (with_reducible assumption) | go_cell)
    have hz3_0_4 : W3.frozen? ⟨w.heap.size, 4, none⟩ = false := (hf3 _ _ (by first | omega | go_size)).trans (by first | (with_reducible assumption) | (go_simp; done) | (simp [*]; done))
    have hk3_0 : w.heap.size < W3.heap.size := by omega
    have hl3_1_0 : W3.cell? ⟨w.heap.size + 1, 0, none⟩ = some (.bool true) := (hc3 _ _ (by first | omega | go_size)).trans (by first | (with_reducible assumption) | go_cell)
    have hz3_1_0 : W3.frozen? ⟨w.heap.size + 1, 0, none⟩ = false := (hf3 _ _ (by first | omega | go_size)).trans (by first | (with_reducible assumption) | (go_simp; done) | (simp [*]; done))
    have hl3_1_1 : W3.cell? ⟨w.heap.size + 1, 1, none⟩ = some (num n) := (hc3 _ _ (by first | omega | go_size)).trans (by first | (with_reducible assumption) | go_cell)
    have hz3_1_1 : W3.frozen? ⟨w.heap.size + 1, 1, none⟩ = false := (hf3 _ _ (by first | omega | go_size)).trans (by first | (with_reducible assumption) | (go_simp; done) | (simp [*]; done))
    have hl3_1_2 : W3.cell? ⟨w.heap.size + 1, 2, none⟩ = some (u64 d) := (hc3 _ _ (by first | omega | go_size)).trans (by first | (with_reducible assumption) | go_cell)
    have hz3_1_2 : W3.frozen? ⟨w.heap.size + 1, 2, none⟩ = false := (hf3 _ _ (by first | omega | go_size)).trans (by first | (with_reducible assumption) | (go_simp; done) | (simp [*]; done))
    have hl3_1_3 : W3.cell? ⟨w.heap.size + 1, 3, none⟩ = some (u64 0) := (hc3 _ _ (by first | omega | go_size)).trans (by first | (with_reducible assumption) | go_cell)
    have hz3_1_3 : W3.frozen? ⟨w.heap.size + 1, 3, none⟩ = false := (hf3 _ _ (by first | omega | go_size)).trans (by first | (with_reducible assumption) | (go_simp; done) | (simp [*]; done))
    have hl3_1_4 : W3.cell? ⟨w.heap.size + 1, 4, none⟩ = some (u64 0) := (hc3 _ _ (by first | omega | go_size)).trans (by first | (with_reducible assumption) | go_cell)
    have hz3_1_4 : W3.frozen? ⟨w.heap.size + 1, 4, none⟩ = false := (hf3 _ _ (by first | omega | go_size)).trans (by first | (with_reducible assumption) | (go_simp; done) | (simp [*]; done))
    have hk3_1 : w.heap.size + 1 < W3.heap.size := by omega
    clear hg3 hc3 hf3
    go_wp2_with fail
    rcases F1 with rfl | rfl
    case inr =>
      obtain rfl : r = noPlace := by rw [← hr, if_pos (by unfold badPlace; rfl)]
      clear hr
      refine (r_align_g n2 4 e f3 HN2.out p2_4 HA3.out _).mono ?_
      rintro eE W4 ⟨rfl, hg4⟩
      have hb4 : Below w.heap.size w W4 := (show Below w.heap.size w _ by go_grown).trans (hg4.mono (by first | omega | go_size))
      obtain ⟨hc4, hf4⟩ := bcell hg4
      have hs4 := hg4.size
      try simp only [World.size_alloc, World.size_setCell, World.size_drew] at hs4
      have hl4_0_0 : W4.cell? ⟨w.heap.size, 0, none⟩ = some (.bool false) := (hc4 _ _ (by first | omega | go_size)).trans (by first | (with_reducible assumption) | go_cell)
      have hz4_0_0 : W4.frozen? ⟨w.heap.size, 0, none⟩ = false := (hf4 _ _ (by first | omega | go_size)).trans (by first | (with_reducible assumption) | (go_simp; done) | (simp [*]; done))
      have hl4_0_1 : W4.cell? ⟨w.heap.size, 1, none⟩ = some (num 0) := (hc4 _ _ (by first | omega | go_size)).trans (by first | (with_reducible assumption) | go_cell)
      have hz4_0_1 : W4.frozen? ⟨w.heap.size, 1, none⟩ = false := (hf4 _ _ (by first | omega | go_size)).trans (by first | (with_reducible assumption) | (go_simp; done) | (simp [*]; done))
      have hl4_0_2 : W4.cell? ⟨w.heap.size, 2, none⟩ = some (u64 0) := (hc4 _ _ (by first | omega | go_size)).trans (by first | (with_reducible assumption) | go_cell)
      have hz4_0_2 : W4.frozen? ⟨w.heap.size, 2, none⟩ = false := (hf4 _ _ (by first | omega | go_size)).trans (by first | (with_reducible assumption) | (go_simp; done) | (simp [*]; done))
      have hl4_0_3 : W4.cell? ⟨w.heap.size, 3, none⟩ = some (u64 0) := (hc4 _ _ (by first | omega | go_size)).trans (by first | (with_reducible assumption) | go_cell)
      have hz4_0_3 : W4.frozen? ⟨w.heap.size, 3, none⟩ = false := (hf4 _ _ (by first | omega | go_size)).trans (by first | (with_reducible assumption) | (go_simp; done) | (simp [*]; done))
      have hl4_0_4 : W4.cell? ⟨w.heap.size, 4, none⟩ = some (u64 0) := (hc4 _ _ (by first | omega | go_size)).trans (by first | (with_reducible assumption) | go_cell)
      have hz4_0_4 : W4.frozen? ⟨w.heap.size, 4, none⟩ = false := (hf4 _ _ (by first | omega | go_size)).trans (by first | (with_reducible assumption) | (go_simp; done) | (simp [*]; done))
      have hk4_0 : w.heap.size < W4.heap.size := by omega
      have hl4_1_0 : W4.cell? ⟨w.heap.size + 1, 0, none⟩ = some (.bool true) := (hc4 _ _ (by first | omega | go_size)).trans (by first | (with_reducible assumption) | go_cell)
      have hz4_1_0 : W4.frozen? ⟨w.heap.size + 1, 0, none⟩ = false := (hf4 _ _ (by first | omega | go_size)).trans (by first | (with_reducible assumption) | (go_simp; done) | (simp [*]; done))
      have hl4_1_1 : W4.cell? ⟨w.heap.size + 1, 1, none⟩ = some (num n) := (hc4 _ _ (by first | omega | go_size)).trans (by first | (with_reducible assumption) | go_cell)
      have hz4_1_1 : W4.frozen? ⟨w.heap.size + 1, 1, none⟩ = false := (hf4 _ _ (by first | omega | go_size)).trans (by first | (with_reducible assumption) | (go_simp; done) | (simp [*]; done))
      have hl4_1_2 : W4.cell? ⟨w.heap.size + 1, 2, none⟩ = some (u64 d) := (hc4 _ _ (by first | omega | go_size)).trans (by first | (with_reducible assumption) | go_cell)
      have hz4_1_2 : W4.frozen? ⟨w.heap.size + 1, 2, none⟩ = false := (hf4 _ _ (by first | omega | go_size)).trans (by first | (with_reducible assumption) | (go_simp; done) | (simp [*]; done))
      have hl4_1_3 : W4.cell? ⟨w.heap.size + 1, 3, none⟩ = some (u64 v) := (hc4 _ _ (by first | omega | go_size)).trans (by first | (with_reducible assumption) | go_cell)
      have hz4_1_3 : W4.frozen? ⟨w.heap.size + 1, 3, none⟩ = false := (hf4 _ _ (by first | omega | go_size)).trans (by first | (with_reducible assumption) | (go_simp; done) | (simp [*]; done))
      have hl4_1_4 : W4.cell? ⟨w.heap.size + 1, 4, none⟩ = some (u64 0) := (hc4 _ _ (by first | omega | go_size)).trans (by first | (with_reducible assumption) | go_cell)
      have hz4_1_4 : W4.frozen? ⟨w.heap.size + 1, 4, none⟩ = false := (hf4 _ _ (by first | omega | go_size)).trans (by first | (with_reducible assumption) | (go_simp; done) | (simp [*]; done))
      have hk4_1 : w.heap.size + 1 < W4.heap.size := by omega
      clear hg4 hc4 hf4
      go_wp2_with fail
      refine Lib.bodyPost_at5 (B := w.heap.size) (w := w) (w.heap.size) (.bool false) (num 0) (u64 0) (u64 0) (u64 0) (.tuple #[ringV false 0 0 0 0, u64 0, num 2]) ?_ ?_ ?_ ?_ ?_ ?_ rfl ?_ (fun WG hWG => ⟨rfl, hWG⟩)
      · first | (with_reducible assumption) | go_cell | (go_simp; done) | (simp [*]; done)
      · first | (with_reducible assumption) | go_cell | (go_simp; done) | (simp [*]; done)
      · first | (with_reducible assumption) | go_cell | (go_simp; done) | (simp [*]; done)
      · first | (with_reducible assumption) | go_cell | (go_simp; done) | (simp [*]; done)
      · first | (with_reducible assumption) | go_cell | (go_simp; done) | (simp [*]; done)
      · go_grown
      · intro WG qr0 qr1 qr2 qr3 qr4
        simp [results, Try.results72, go_sem, qr0, qr1, qr2, qr3, qr4]
    rcases F2 with rfl | rfl
    case inr =>
      obtain rfl : r = noPlace := by rw [← hr, if_pos (by unfold badPlace; rfl)]
      clear hr
      refine (r_align_g n2 4 e f3 HN2.out p2_4 HA3.out _).mono ?_
      rintro eE W4 ⟨rfl, hg4⟩
      have hb4 : Below w.heap.size w W4 := (show Below w.heap.size w _ by go_grown).trans (hg4.mono (by first | omega | go_size))
      obtain ⟨hc4, hf4⟩ := bcell hg4
      have hs4 := hg4.size
      try simp only [World.size_alloc, World.size_setCell, World.size_drew] at hs4
      have hl4_0_0 : W4.cell? ⟨w.heap.size, 0, none⟩ = some (.bool false) := (hc4 _ _ (by first | omega | go_size)).trans (by first | (with_reducible assumption) | go_cell)
      have hz4_0_0 : W4.frozen? ⟨w.heap.size, 0, none⟩ = false := (hf4 _ _ (by first | omega | go_size)).trans (by first | (with_reducible assumption) | (go_simp; done) | (simp [*]; done))
      have hl4_0_1 : W4.cell? ⟨w.heap.size, 1, none⟩ = some (num 0) := (hc4 _ _ (by first | omega | go_size)).trans (by first | (with_reducible assumption) | go_cell)
      have hz4_0_1 : W4.frozen? ⟨w.heap.size, 1, none⟩ = false := (hf4 _ _ (by first | omega | go_size)).trans (by first | (with_reducible assumption) | (go_simp; done) | (simp [*]; done))
      have hl4_0_2 : W4.cell? ⟨w.heap.size, 2, none⟩ = some (u64 0) := (hc4 _ _ (by first | omega | go_size)).trans (by first | (with_reducible assumption) | go_cell)
      have hz4_0_2 : W4.frozen? ⟨w.heap.size, 2, none⟩ = false := (hf4 _ _ (by first | omega | go_size)).trans (by first | (with_reducible assumption) | (go_simp; done) | (simp [*]; done))
      have hl4_0_3 : W4.cell? ⟨w.heap.size, 3, none⟩ = some (u64 0) := (hc4 _ _ (by first | omega | go_size)).trans (by first | (with_reducible assumption) | go_cell)
      have hz4_0_3 : W4.frozen? ⟨w.heap.size, 3, none⟩ = false := (hf4 _ _ (by first | omega | go_size)).trans (by first | (with_reducible assumption) | (go_simp; done) | (simp [*]; done))
      have hl4_0_4 : W4.cell? ⟨w.heap.size, 4, none⟩ = some (u64 0) := (hc4 _ _ (by first | omega | go_size)).trans (by first | (with_reducible assumption) | go_cell)
      have hz4_0_4 : W4.frozen? ⟨w.heap.size, 4, none⟩ = false := (hf4 _ _ (by first | omega | go_size)).trans (by first | (with_reducible assumption) | (go_simp; done) | (simp [*]; done))
      have hk4_0 : w.heap.size < W4.heap.size := by omega
      have hl4_1_0 : W4.cell? ⟨w.heap.size + 1, 0, none⟩ = some (.bool true) := (hc4 _ _ (by first | omega | go_size)).trans (by first | (with_reducible assumption) | go_cell)
      have hz4_1_0 : W4.frozen? ⟨w.heap.size + 1, 0, none⟩ = false := (hf4 _ _ (by first | omega | go_size)).trans (by first | (with_reducible assumption) | (go_simp; done) | (simp [*]; done))
      have hl4_1_1 : W4.cell? ⟨w.heap.size + 1, 1, none⟩ = some (num n) := (hc4 _ _ (by first | omega | go_size)).trans (by first | (with_reducible assumption) | go_cell)
      have hz4_1_1 : W4.frozen? ⟨w.heap.size + 1, 1, none⟩ = false := (hf4 _ _ (by first | omega | go_size)).trans (by first | (with_reducible assumption) | (go_simp; done) | (simp [*]; done))
      have hl4_1_2 : W4.cell? ⟨w.heap.size + 1, 2, none⟩ = some (u64 d) := (hc4 _ _ (by first | omega | go_size)).trans (by first | (with_reducible assumption) | go_cell)
      have hz4_1_2 : W4.frozen? ⟨w.heap.size + 1, 2, none⟩ = false := (hf4 _ _ (by first | omega | go_size)).trans (by first | (with_reducible assumption) | (go_simp; done) | (simp [*]; done))
      have hl4_1_3 : W4.cell? ⟨w.heap.size + 1, 3, none⟩ = some (u64 v) := (hc4 _ _ (by first | omega | go_size)).trans (by first | (with_reducible assumption) | go_cell)
      have hz4_1_3 : W4.frozen? ⟨w.heap.size + 1, 3, none⟩ = false := (hf4 _ _ (by first | omega | go_size)).trans (by first | (with_reducible assumption) | (go_simp; done) | (simp [*]; done))
      have hl4_1_4 : W4.cell? ⟨w.heap.size + 1, 4, none⟩ = some (u64 0) := (hc4 _ _ (by first | omega | go_size)).trans (by first | (with_reducible assumption) | go_cell)
      have hz4_1_4 : W4.frozen? ⟨w.heap.size + 1, 4, none⟩ = false := (hf4 _ _ (by first | omega | go_size)).trans (by first | (with_reducible assumption) | (go_simp; done) | (simp [*]; done))
      have hk4_1 : w.heap.size + 1 < W4.heap.size := by omega
      clear hg4 hc4 hf4
      go_wp2_with fail
      refine Lib.bodyPost_at5 (B := w.heap.size) (w := w) (w.heap.size) (.bool false) (num 0) (u64 0) (u64 0) (u64 0) (.tuple #[ringV false 0 0 0 0, u64 0, num 2]) ?_ ?_ ?_ ?_ ?_ ?_ rfl ?_ (fun WG hWG => ⟨rfl, hWG⟩)
      · first | (with_reducible assumption) | go_cell | (go_simp; done) | (simp [*]; done)
      · first | (with_reducible assumption) | go_cell | (go_simp; done) | (simp [*]; done)
      · first | (with_reducible assumption) | go_cell | (go_simp; done) | (simp [*]; done)
      · first | (with_reducible assumption) | go_cell | (go_simp; done) | (simp [*]; done)
      · first | (with_reducible assumption) | go_cell | (go_simp; done) | (simp [*]; done)
      · go_grown
      · intro WG qr0 qr1 qr2 qr3 qr4
        simp [results, Try.results72, go_sem, qr0, qr1, qr2, qr3, qr4]
    rcases F3 with rfl | rfl
    case inr =>
      obtain rfl : r = noPlace := by rw [← hr, if_pos (by unfold badPlace; rfl)]
      clear hr
      refine (r_align_g n2 4 e 2 HN2.out p2_4 HA3.out _).mono ?_
      rintro eE W4 ⟨rfl, hg4⟩
      have hb4 : Below w.heap.size w W4 := (show Below w.heap.size w _ by go_grown).trans (hg4.mono (by first | omega | go_size))
      obtain ⟨hc4, hf4⟩ := bcell hg4
      have hs4 := hg4.size
      try simp only [World.size_alloc, World.size_setCell, World.size_drew] at hs4
      have hl4_0_0 : W4.cell? ⟨w.heap.size, 0, none⟩ = some (.bool false) := (hc4 _ _ (by first | omega | go_size)).trans (by first | (with_reducible assumption) | go_cell)
      have hz4_0_0 : W4.frozen? ⟨w.heap.size, 0, none⟩ = false := (hf4 _ _ (by first | omega | go_size)).trans (by first | (with_reducible assumption) | (go_simp; done) | (simp [*]; done))
      have hl4_0_1 : W4.cell? ⟨w.heap.size, 1, none⟩ = some (num 0) := (hc4 _ _ (by first | omega | go_size)).trans (by first | (with_reducible assumption) | go_cell)
      have hz4_0_1 : W4.frozen? ⟨w.heap.size, 1, none⟩ = false := (hf4 _ _ (by first | omega | go_size)).trans (by first | (with_reducible assumption) | (go_simp; done) | (simp [*]; done))
      have hl4_0_2 : W4.cell? ⟨w.heap.size, 2, none⟩ = some (u64 0) := (hc4 _ _ (by first | omega | go_size)).trans (by first | (with_reducible assumption) | go_cell)
      have hz4_0_2 : W4.frozen? ⟨w.heap.size, 2, none⟩ = false := (hf4 _ _ (by first | omega | go_size)).trans (by first | (with_reducible assumption) | (go_simp; done) | (simp [*]; done))
      have hl4_0_3 : W4.cell? ⟨w.heap.size, 3, none⟩ = some (u64 0) := (hc4 _ _ (by first | omega | go_size)).trans (by first | (with_reducible assumption) | go_cell)
      have hz4_0_3 : W4.frozen? ⟨w.heap.size, 3, none⟩ = false := (hf4 _ _ (by first | omega | go_size)).trans (by first | (with_reducible assumption) | (go_simp; done) | (simp [*]; done))
      have hl4_0_4 : W4.cell? ⟨w.heap.size, 4, none⟩ = some (u64 0) := (hc4 _ _ (by first | omega | go_size)).trans (by first | (with_reducible assumption) | go_cell)
      have hz4_0_4 : W4.frozen? ⟨w.heap.size, 4, none⟩ = false := (hf4 _ _ (by first | omega | go_size)).trans (by first | (with_reducible assumption) | (go_simp; done) | (simp [*]; done))
      have hk4_0 : w.heap.size < W4.heap.size := by omega
      have hl4_1_0 : W4.cell? ⟨w.heap.size + 1, 0, none⟩ = some (.bool true) := (hc4 _ _ (by first | omega | go_size)).trans (by first | (with_reducible assumption) | go_cell)
      have hz4_1_0 : W4.frozen? ⟨w.heap.size + 1, 0, none⟩ = false := (hf4 _ _ (by first | omega | go_size)).trans (by first | (with_reducible assumption) | (go_simp; done) | (simp [*]; done))
      have hl4_1_1 : W4.cell? ⟨w.heap.size + 1, 1, none⟩ = some (num n) := (hc4 _ _ (by first | omega | go_size)).trans (by first | (with_reducible assumption) | go_cell)
      have hz4_1_1 : W4.frozen? ⟨w.heap.size + 1, 1, none⟩ = false := (hf4 _ _ (by first | omega | go_size)).trans (by first | (with_reducible assumption) | (go_simp; done) | (simp [*]; done))
      have hl4_1_2 : W4.cell? ⟨w.heap.size + 1, 2, none⟩ = some (u64 d) := (hc4 _ _ (by first | omega | go_size)).trans (by first | (with_reducible assumption) | go_cell)
      have hz4_1_2 : W4.frozen? ⟨w.heap.size + 1, 2, none⟩ = false := (hf4 _ _ (by first | omega | go_size)).trans (by first | (with_reducible assumption) | (go_simp; done) | (simp [*]; done))
      have hl4_1_3 : W4.cell? ⟨w.heap.size + 1, 3, none⟩ = some (u64 v) := (hc4 _ _ (by first | omega | go_size)).trans (by first | (with_reducible assumption) | go_cell)
      have hz4_1_3 : W4.frozen? ⟨w.heap.size + 1, 3, none⟩ = false := (hf4 _ _ (by first | omega | go_size)).trans (by first | (with_reducible assumption) | (go_simp; done) | (simp [*]; done))
      have hl4_1_4 : W4.cell? ⟨w.heap.size + 1, 4, none⟩ = some (u64 0) := (hc4 _ _ (by first | omega | go_size)).trans (by first | (with_reducible assumption) | go_cell)
      have hz4_1_4 : W4.frozen? ⟨w.heap.size + 1, 4, none⟩ = false := (hf4 _ _ (by first | omega | go_size)).trans (by first | (with_reducible assumption) | (go_simp; done) | (simp [*]; done))
      have hk4_1 : w.heap.size + 1 < W4.heap.size := by omega
      clear hg4 hc4 hf4
      go_wp2_with fail
      refine Lib.bodyPost_at5 (B := w.heap.size) (w := w) (w.heap.size) (.bool false) (num 0) (u64 0) (u64 0) (u64 0) (.tuple #[ringV false 0 0 0 0, u64 0, num 2]) ?_ ?_ ?_ ?_ ?_ ?_ rfl ?_ (fun WG hWG => ⟨rfl, hWG⟩)
      · first | (with_reducible assumption) | go_cell | (go_simp; done) | (simp [*]; done)
      · first | (with_reducible assumption) | go_cell | (go_simp; done) | (simp [*]; done)
      · first | (with_reducible assumption) | go_cell | (go_simp; done) | (simp [*]; done)
      · first | (with_reducible assumption) | go_cell | (go_simp; done) | (simp [*]; done)
      · first | (with_reducible assumption) | go_cell | (go_simp; done) | (simp [*]; done)
      · go_grown
      · intro WG qr0 qr1 qr2 qr3 qr4
        simp [results, Try.results72, go_sem, qr0, qr1, qr2, qr3, qr4]
    by_cases l1 : n1 < d
    case pos =>
      obtain rfl : r = noPlace := by rw [← hr, if_pos (by unfold badPlace; rw [E1.out, decide_eq_true l1]; rfl)]
      clear hr
      refine (r_align_g n2 4 e 0 HN2.out p2_4 HA3.out _).mono ?_
      rintro eE W4 ⟨rfl, hg4⟩
      have hb4 : Below w.heap.size w W4 := (show Below w.heap.size w _ by go_grown).trans (hg4.mono (by first | omega | go_size))
      obtain ⟨hc4, hf4⟩ := bcell hg4
      have hs4 := hg4.size
      try simp only [World.size_alloc, World.size_setCell, World.size_drew] at hs4
      have hl4_0_0 : W4.cell? ⟨w.heap.size, 0, none⟩ = some (.bool false) := (hc4 _ _ (by first | omega | go_size)).trans (by first | (with_reducible assumption) | go_cell)
      have hz4_0_0 : W4.frozen? ⟨w.heap.size, 0, none⟩ = false := (hf4 _ _ (by first | omega | go_size)).trans (by first | (with_reducible assumption) | (go_simp; done) | (simp [*]; done))
      have hl4_0_1 : W4.cell? ⟨w.heap.size, 1, none⟩ = some (num 0) := (hc4 _ _ (by first | omega | go_size)).trans (by first | (with_reducible assumption) | go_cell)
      have hz4_0_1 : W4.frozen? ⟨w.heap.size, 1, none⟩ = false := (hf4 _ _ (by first | omega | go_size)).trans (by first | (with_reducible assumption) | (go_simp; done) | (simp [*]; done))
      have hl4_0_2 : W4.cell? ⟨w.heap.size, 2, none⟩ = some (u64 0) := (hc4 _ _ (by first | omega | go_size)).trans (by first | (with_reducible assumption) | go_cell)
      have hz4_0_2 : W4.frozen? ⟨w.heap.size, 2, none⟩ = false := (hf4 _ _ (by first | omega | go_size)).trans (by first | (with_reducible assumption) | (go_simp; done) | (simp [*]; done))
      have hl4_0_3 : W4.cell? ⟨w.heap.size, 3, none⟩ = some (u64 0) := (hc4 _ _ (by first | omega | go_size)).trans (by first | (with_reducible assumption) | go_cell)
      have hz4_0_3 : W4.frozen? ⟨w.heap.size, 3, none⟩ = false := (hf4 _ _ (by first | omega | go_size)).trans (by first | (with_reducible assumption) | (go_simp; done) | (simp [*]; done))
      have hl4_0_4 : W4.cell? ⟨w.heap.size, 4, none⟩ = some (u64 0) := (hc4 _ _ (by first | omega | go_size)).trans (by first | (with_reducible assumption) | go_cell)
      have hz4_0_4 : W4.frozen? ⟨w.heap.size, 4, none⟩ = false := (hf4 _ _ (by first | omega | go_size)).trans (by first | (with_reducible assumption) | (go_simp; done) | (simp [*]; done))
      have hk4_0 : w.heap.size < W4.heap.size := by omega
      have hl4_1_0 : W4.cell? ⟨w.heap.size + 1, 0, none⟩ = some (.bool true) := (hc4 _ _ (by first | omega | go_size)).trans (by first | (with_reducible assumption) | go_cell)
      have hz4_1_0 : W4.frozen? ⟨w.heap.size + 1, 0, none⟩ = false := (hf4 _ _ (by first | omega | go_size)).trans (by first | (with_reducible assumption) | (go_simp; done) | (simp [*]; done))
      have hl4_1_1 : W4.cell? ⟨w.heap.size + 1, 1, none⟩ = some (num n) := (hc4 _ _ (by first | omega | go_size)).trans (by first | (with_reducible assumption) | go_cell)
      have hz4_1_1 : W4.frozen? ⟨w.heap.size + 1, 1, none⟩ = false := (hf4 _ _ (by first | omega | go_size)).trans (by first | (with_reducible assumption) | (go_simp; done) | (simp [*]; done))
      have hl4_1_2 : W4.cell? ⟨w.heap.size + 1, 2, none⟩ = some (u64 d) := (hc4 _ _ (by first | omega | go_size)).trans (by first | (with_reducible assumption) | go_cell)
      have hz4_1_2 : W4.frozen? ⟨w.heap.size + 1, 2, none⟩ = false := (hf4 _ _ (by first | omega | go_size)).trans (by first | (with_reducible assumption) | (go_simp; done) | (simp [*]; done))
      have hl4_1_3 : W4.cell? ⟨w.heap.size + 1, 3, none⟩ = some (u64 v) := (hc4 _ _ (by first | omega | go_size)).trans (by first | (with_reducible assumption) | go_cell)
      have hz4_1_3 : W4.frozen? ⟨w.heap.size + 1, 3, none⟩ = false := (hf4 _ _ (by first | omega | go_size)).trans (by first | (with_reducible assumption) | (go_simp; done) | (simp [*]; done))
      have hl4_1_4 : W4.cell? ⟨w.heap.size + 1, 4, none⟩ = some (u64 0) := (hc4 _ _ (by first | omega | go_size)).trans (by first | (with_reducible assumption) | go_cell)
      have hz4_1_4 : W4.frozen? ⟨w.heap.size + 1, 4, none⟩ = false := (hf4 _ _ (by first | omega | go_size)).trans (by first | (with_reducible assumption) | (go_simp; done) | (simp [*]; done))
      have hk4_1 : w.heap.size + 1 < W4.heap.size := by omega
      clear hg4 hc4 hf4
      go_wp2_with fail
      refine Lib.bodyPost_at5 (B := w.heap.size) (w := w) (w.heap.size) (.bool false) (num 0) (u64 0) (u64 0) (u64 0) (.tuple #[ringV false 0 0 0 0, u64 0, num 2]) ?_ ?_ ?_ ?_ ?_ ?_ rfl ?_ (fun WG hWG => ⟨rfl, hWG⟩)
      · first | (with_reducible assumption) | go_cell | (go_simp; done) | (simp [*]; done)
      · first | (with_reducible assumption) | go_cell | (go_simp; done) | (simp [*]; done)
      · first | (with_reducible assumption) | go_cell | (go_simp; done) | (simp [*]; done)
      · first | (with_reducible assumption) | go_cell | (go_simp; done) | (simp [*]; done)
      · first | (with_reducible assumption) | go_cell | (go_simp; done) | (simp [*]; done)
      · go_grown
      · intro WG qr0 qr1 qr2 qr3 qr4
        simp [results, Try.results72, go_sem, qr0, qr1, qr2, qr3, qr4]
    by_cases l2 : n2 < v
    case pos =>
      obtain rfl : r = noPlace := by rw [← hr, if_pos (by unfold badPlace; rw [E1.out, E2.out, decide_eq_false l1, decide_eq_true l2]; rfl)]
      clear hr
      refine (r_align_g n2 4 e 0 HN2.out p2_4 HA3.out _).mono ?_
      rintro eE W4 ⟨rfl, hg4⟩
      have hb4 : Below w.heap.size w W4 := (show Below w.heap.size w _ by go_grown).trans (hg4.mono (by first | omega | go_size))
      obtain ⟨hc4, hf4⟩ := bcell hg4
      have hs4 := hg4.size
      try simp only [World.size_alloc, World.size_setCell, World.size_drew] at hs4
      have hl4_0_0 : W4.cell? ⟨w.heap.size, 0, none⟩ = some (.bool false) := (hc4 _ _ (by first | omega | go_size)).trans (by first | (with_reducible assumption) | go_cell)
      have hz4_0_0 : W4.frozen? ⟨w.heap.size, 0, none⟩ = false := (hf4 _ _ (by first | omega | go_size)).trans (by first | (with_reducible assumption) | (go_simp; done) | (simp [*]; done))
      have hl4_0_1 : W4.cell? ⟨w.heap.size, 1, none⟩ = some (num 0) := (hc4 _ _ (by first | omega | go_size)).trans (by first | (with_reducible assumption) | go_cell)
      have hz4_0_1 : W4.frozen? ⟨w.heap.size, 1, none⟩ = false := (hf4 _ _ (by first | omega | go_size)).trans (by first | (with_reducible assumption) | (go_simp; done) | (simp [*]; done))
      have hl4_0_2 : W4.cell? ⟨w.heap.size, 2, none⟩ = some (u64 0) := (hc4 _ _ (by first | omega | go_size)).trans (by first | (with_reducible assumption) | go_cell)
      have hz4_0_2 : W4.frozen? ⟨w.heap.size, 2, none⟩ = false := (hf4 _ _ (by first | omega | go_size)).trans (by first | (with_reducible assumption) | (go_simp; done) | (simp [*]; done))
      have hl4_0_3 : W4.cell? ⟨w.heap.size, 3, none⟩ = some (u64 0) := (hc4 _ _ (by first | omega | go_size)).trans (by first | (with_reducible assumption) | go_cell)
      have hz4_0_3 : W4.frozen? ⟨w.heap.size, 3, none⟩ = false := (hf4 _ _ (by first | omega | go_size)).trans (by first | (with_reducible assumption) | (go_simp; done) | (simp [*]; done))
      have hl4_0_4 : W4.cell? ⟨w.heap.size, 4, none⟩ = some (u64 0) := (hc4 _ _ (by first | omega | go_size)).trans (by first | (with_reducible assumption) | go_cell)
      have hz4_0_4 : W4.frozen? ⟨w.heap.size, 4, none⟩ = false := (hf4 _ _ (by first | omega | go_size)).trans (by first | (with_reducible assumption) | (go_simp; done) | (simp [*]; done))
      have hk4_0 : w.heap.size < W4.heap.size := by omega
      have hl4_1_0 : W4.cell? ⟨w.heap.size + 1, 0, none⟩ = some (.bool true) := (hc4 _ _ (by first | omega | go_size)).trans (by first | (with_reducible assumption) | go_cell)
      have hz4_1_0 : W4.frozen? ⟨w.heap.size + 1, 0, none⟩ = false := (hf4 _ _ (by first | omega | go_size)).trans (by first | (with_reducible assumption) | (go_simp; done) | (simp [*]; done))
      have hl4_1_1 : W4.cell? ⟨w.heap.size + 1, 1, none⟩ = some (num n) := (hc4 _ _ (by first | omega | go_size)).trans (by first | (with_reducible assumption) | go_cell)
      have hz4_1_1 : W4.frozen? ⟨w.heap.size + 1, 1, none⟩ = false := (hf4 _ _ (by first | omega | go_size)).trans (by first | (with_reducible assumption) | (go_simp; done) | (simp [*]; done))
      have hl4_1_2 : W4.cell? ⟨w.heap.size + 1, 2, none⟩ = some (u64 d) := (hc4 _ _ (by first | omega | go_size)).trans (by first | (with_reducible assumption) | go_cell)
      have hz4_1_2 : W4.frozen? ⟨w.heap.size + 1, 2, none⟩ = false := (hf4 _ _ (by first | omega | go_size)).trans (by first | (with_reducible assumption) | (go_simp; done) | (simp [*]; done))
      have hl4_1_3 : W4.cell? ⟨w.heap.size + 1, 3, none⟩ = some (u64 v) := (hc4 _ _ (by first | omega | go_size)).trans (by first | (with_reducible assumption) | go_cell)
      have hz4_1_3 : W4.frozen? ⟨w.heap.size + 1, 3, none⟩ = false := (hf4 _ _ (by first | omega | go_size)).trans (by first | (with_reducible assumption) | (go_simp; done) | (simp [*]; done))
      have hl4_1_4 : W4.cell? ⟨w.heap.size + 1, 4, none⟩ = some (u64 0) := (hc4 _ _ (by first | omega | go_size)).trans (by first | (with_reducible assumption) | go_cell)
      have hz4_1_4 : W4.frozen? ⟨w.heap.size + 1, 4, none⟩ = false := (hf4 _ _ (by first | omega | go_size)).trans (by first | (with_reducible assumption) | (go_simp; done) | (simp [*]; done))
      have hk4_1 : w.heap.size + 1 < W4.heap.size := by omega
      clear hg4 hc4 hf4
      go_wp2_with fail
      refine Lib.bodyPost_at5 (B := w.heap.size) (w := w) (w.heap.size) (.bool false) (num 0) (u64 0) (u64 0) (u64 0) (.tuple #[ringV false 0 0 0 0, u64 0, num 2]) ?_ ?_ ?_ ?_ ?_ ?_ rfl ?_ (fun WG hWG => ⟨rfl, hWG⟩)
      · first | (with_reducible assumption) | go_cell | (go_simp; done) | (simp [*]; done)
      · first | (with_reducible assumption) | go_cell | (go_simp; done) | (simp [*]; done)
      · first | (with_reducible assumption) | go_cell | (go_simp; done) | (simp [*]; done)
      · first | (with_reducible assumption) | go_cell | (go_simp; done) | (simp [*]; done)
      · first | (with_reducible assumption) | go_cell | (go_simp; done) | (simp [*]; done)
      · go_grown
      · intro WG qr0 qr1 qr2 qr3 qr4
        simp [results, Try.results72, go_sem, qr0, qr1, qr2, qr3, qr4]
    by_cases l3 : s3 < e
    case pos =>
      obtain rfl : r = noPlace := by rw [← hr, if_pos (by unfold badPlace; rw [E1.out, E2.out, E3.out, decide_eq_false l1, decide_eq_false l2, decide_eq_true l3]; rfl)]
      clear hr
      refine (r_align_g n2 4 e 0 HN2.out p2_4 HA3.out _).mono ?_
      rintro eE W4 ⟨rfl, hg4⟩
      have hb4 : Below w.heap.size w W4 := (show Below w.heap.size w _ by go_grown).trans (hg4.mono (by first | omega | go_size))
      obtain ⟨hc4, hf4⟩ := bcell hg4
      have hs4 := hg4.size
      try simp only [World.size_alloc, World.size_setCell, World.size_drew] at hs4
      have hl4_0_0 : W4.cell? ⟨w.heap.size, 0, none⟩ = some (.bool false) := (hc4 _ _ (by first | omega | go_size)).trans (by first | (with_reducible assumption) | go_cell)
      have hz4_0_0 : W4.frozen? ⟨w.heap.size, 0, none⟩ = false := (hf4 _ _ (by first | omega | go_size)).trans (by first | (with_reducible assumption) | (go_simp; done) | (simp [*]; done))
      have hl4_0_1 : W4.cell? ⟨w.heap.size, 1, none⟩ = some (num 0) := (hc4 _ _ (by first | omega | go_size)).trans (by first | (with_reducible assumption) | go_cell)
      have hz4_0_1 : W4.frozen? ⟨w.heap.size, 1, none⟩ = false := (hf4 _ _ (by first | omega | go_size)).trans (by first | (with_reducible assumption) | (go_simp; done) | (simp [*]; done))
      have hl4_0_2 : W4.cell? ⟨w.heap.size, 2, none⟩ = some (u64 0) := (hc4 _ _ (by first | omega | go_size)).trans (by first | (with_reducible assumption) | go_cell)
      have hz4_0_2 : W4.frozen? ⟨w.heap.size, 2, none⟩ = false := (hf4 _ _ (by first | omega | go_size)).trans (by first | (with_reducible assumption) | (go_simp; done) | (simp [*]; done))
      have hl4_0_3 : W4.cell? ⟨w.heap.size, 3, none⟩ = some (u64 0) := (hc4 _ _ (by first | omega | go_size)).trans (by first | (with_reducible assumption) | go_cell)
      have hz4_0_3 : W4.frozen? ⟨w.heap.size, 3, none⟩ = false := (hf4 _ _ (by first | omega | go_size)).trans (by first | (with_reducible assumption) | (go_simp; done) | (simp [*]; done))
      have hl4_0_4 : W4.cell? ⟨w.heap.size, 4, none⟩ = some (u64 0) := (hc4 _ _ (by first | omega | go_size)).trans (by first | (with_reducible assumption) | go_cell)
      have hz4_0_4 : W4.frozen? ⟨w.heap.size, 4, none⟩ = false := (hf4 _ _ (by first | omega | go_size)).trans (by first | (with_reducible assumption) | (go_simp; done) | (simp [*]; done))
      have hk4_0 : w.heap.size < W4.heap.size := by omega
      have hl4_1_0 : W4.cell? ⟨w.heap.size + 1, 0, none⟩ = some (.bool true) := (hc4 _ _ (by first | omega | go_size)).trans (by first | (with_reducible assumption) | go_cell)
      have hz4_1_0 : W4.frozen? ⟨w.heap.size + 1, 0, none⟩ = false := (hf4 _ _ (by first | omega | go_size)).trans (by first | (with_reducible assumption) | (go_simp; done) | (simp [*]; done))
      have hl4_1_1 : W4.cell? ⟨w.heap.size + 1, 1, none⟩ = some (num n) := (hc4 _ _ (by first | omega | go_size)).trans (by first | (with_reducible assumption) | go_cell)
      have hz4_1_1 : W4.frozen? ⟨w.heap.size + 1, 1, none⟩ = false := (hf4 _ _ (by first | omega | go_size)).trans (by first | (with_reducible assumption) | (go_simp; done) | (simp [*]; done))
      have hl4_1_2 : W4.cell? ⟨w.heap.size + 1, 2, none⟩ = some (u64 d) := (hc4 _ _ (by first | omega | go_size)).trans (by first | (with_reducible assumption) | go_cell)
      have hz4_1_2 : W4.frozen? ⟨w.heap.size + 1, 2, none⟩ = false := (hf4 _ _ (by first | omega | go_size)).trans (by first | (with_reducible assumption) | (go_simp; done) | (simp [*]; done))
      have hl4_1_3 : W4.cell? ⟨w.heap.size + 1, 3, none⟩ = some (u64 v) := (hc4 _ _ (by first | omega | go_size)).trans (by first | (with_reducible assumption) | go_cell)
      have hz4_1_3 : W4.frozen? ⟨w.heap.size + 1, 3, none⟩ = false := (hf4 _ _ (by first | omega | go_size)).trans (by first | (with_reducible assumption) | (go_simp; done) | (simp [*]; done))
      have hl4_1_4 : W4.cell? ⟨w.heap.size + 1, 4, none⟩ = some (u64 0) := (hc4 _ _ (by first | omega | go_size)).trans (by first | (with_reducible assumption) | go_cell)
      have hz4_1_4 : W4.frozen? ⟨w.heap.size + 1, 4, none⟩ = false := (hf4 _ _ (by first | omega | go_size)).trans (by first | (with_reducible assumption) | (go_simp; done) | (simp [*]; done))
      have hk4_1 : w.heap.size + 1 < W4.heap.size := by omega
      clear hg4 hc4 hf4
      go_wp2_with fail
      refine Lib.bodyPost_at5 (B := w.heap.size) (w := w) (w.heap.size) (.bool false) (num 0) (u64 0) (u64 0) (u64 0) (.tuple #[ringV false 0 0 0 0, u64 0, num 2]) ?_ ?_ ?_ ?_ ?_ ?_ rfl ?_ (fun WG hWG => ⟨rfl, hWG⟩)
      · first | (with_reducible assumption) | go_cell | (go_simp; done) | (simp [*]; done)
      · first | (with_reducible assumption) | go_cell | (go_simp; done) | (simp [*]; done)
      · first | (with_reducible assumption) | go_cell | (go_simp; done) | (simp [*]; done)
      · first | (with_reducible assumption) | go_cell | (go_simp; done) | (simp [*]; done)
      · first | (with_reducible assumption) | go_cell | (go_simp; done) | (simp [*]; done)
      · go_grown
      · intro WG qr0 qr1 qr2 qr3 qr4
        simp [results, Try.results72, go_sem, qr0, qr1, qr2, qr3, qr4]
    cases hc : checkB true n d v e with
    | false =>
      obtain rfl : r = noPlace := by rw [← hr, if_pos (by unfold badPlace; rw [hc, E1.out, E2.out, E3.out, decide_eq_false l1, decide_eq_false l2, decide_eq_false l3]; rfl)]
      have HC := Lib.hid (show (if checkB true n d v e = true then (0 : Int) else 2) = 2 from by rw [hc]; rfl)
      clear hr hc
      refine (r_align_g n2 4 e 0 HN2.out p2_4 HA3.out _).mono ?_
      rintro eE W4 ⟨rfl, hg4⟩
      have hb4 : Below w.heap.size w W4 := (show Below w.heap.size w _ by go_grown).trans (hg4.mono (by first | omega | go_size))
      obtain ⟨hc4, hf4⟩ := bcell hg4
      have hs4 := hg4.size
      try simp only [World.size_alloc, World.size_setCell, World.size_drew] at hs4
      have hl4_0_0 : W4.cell? ⟨w.heap.size, 0, none⟩ = some (.bool false) := (hc4 _ _ (by first | omega | go_size)).trans (by first | (with_reducible assumption) | go_cell)
      have hz4_0_0 : W4.frozen? ⟨w.heap.size, 0, none⟩ = false := (hf4 _ _ (by first | omega | go_size)).trans (by first | (with_reducible assumption) | (go_simp; done) | (simp [*]; done))
      have hl4_0_1 : W4.cell? ⟨w.heap.size, 1, none⟩ = some (num 0) := (hc4 _ _ (by first | omega | go_size)).trans (by first | (with_reducible assumption) | go_cell)
      have hz4_0_1 : W4.frozen? ⟨w.heap.size, 1, none⟩ = false := (hf4 _ _ (by first | omega | go_size)).trans (by first | (with_reducible assumption) | (go_simp; done) | (simp [*]; done))
      have hl4_0_2 : W4.cell? ⟨w.heap.size, 2, none⟩ = some (u64 0) := (hc4 _ _ (by first | omega | go_size)).trans (by first | (with_reducible assumption) | go_cell)
      have hz4_0_2 : W4.frozen? ⟨w.heap.size, 2, none⟩ = false := (hf4 _ _ (by first | omega | go_size)).trans (by first | (with_reducible assumption) | (go_simp; done) | (simp [*]; done))
      have hl4_0_3 : W4.cell? ⟨w.heap.size, 3, none⟩ = some (u64 0) := (hc4 _ _ (by first | omega | go_size)).trans (by first | (with_reducible assumption) | go_cell)
      have hz4_0_3 : W4.frozen? ⟨w.heap.size, 3, none⟩ = false := (hf4 _ _ (by first | omega | go_size)).trans (by first | (with_reducible assumption) | (go_simp; done) | (simp [*]; done))
      have hl4_0_4 : W4.cell? ⟨w.heap.size, 4, none⟩ = some (u64 0) := (hc4 _ _ (by first | omega | go_size)).trans (by first | (with_reducible assumption) | go_cell)
      have hz4_0_4 : W4.frozen? ⟨w.heap.size, 4, none⟩ = false := (hf4 _ _ (by first | omega | go_size)).trans (by first | (with_reducible assumption) | (go_simp; done) | (simp [*]; done))
      have hk4_0 : w.heap.size < W4.heap.size := by omega
      have hl4_1_0 : W4.cell? ⟨w.heap.size + 1, 0, none⟩ = some (.bool true) := (hc4 _ _ (by first | omega | go_size)).trans (by first | (with_reducible assumption) | go_cell)
      have hz4_1_0 : W4.frozen? ⟨w.heap.size + 1, 0, none⟩ = false := (hf4 _ _ (by first | omega | go_size)).trans (by first | (with_reducible assumption) | (go_simp; done) | (simp [*]; done))
      have hl4_1_1 : W4.cell? ⟨w.heap.size + 1, 1, none⟩ = some (num n) := (hc4 _ _ (by first | omega | go_size)).trans (by first | (with_reducible assumption) | go_cell)
      have hz4_1_1 : W4.frozen? ⟨w.heap.size + 1, 1, none⟩ = false := (hf4 _ _ (by first | omega | go_size)).trans (by first | (with_reducible assumption) | (go_simp; done) | (simp [*]; done))
      have hl4_1_2 : W4.cell? ⟨w.heap.size + 1, 2, none⟩ = some (u64 d) := (hc4 _ _ (by first | omega | go_size)).trans (by first | (with_reducible assumption) | go_cell)
      have hz4_1_2 : W4.frozen? ⟨w.heap.size + 1, 2, none⟩ = false := (hf4 _ _ (by first | omega | go_size)).trans (by first | (with_reducible assumption) | (go_simp; done) | (simp [*]; done))
      have hl4_1_3 : W4.cell? ⟨w.heap.size + 1, 3, none⟩ = some (u64 v) := (hc4 _ _ (by first | omega | go_size)).trans (by first | (with_reducible assumption) | go_cell)
      have hz4_1_3 : W4.frozen? ⟨w.heap.size + 1, 3, none⟩ = false := (hf4 _ _ (by first | omega | go_size)).trans (by first | (with_reducible assumption) | (go_simp; done) | (simp [*]; done))
      have hl4_1_4 : W4.cell? ⟨w.heap.size + 1, 4, none⟩ = some (u64 0) := (hc4 _ _ (by first | omega | go_size)).trans (by first | (with_reducible assumption) | go_cell)
      have hz4_1_4 : W4.frozen? ⟨w.heap.size + 1, 4, none⟩ = false := (hf4 _ _ (by first | omega | go_size)).trans (by first | (with_reducible assumption) | (go_simp; done) | (simp [*]; done))
      have hk4_1 : w.heap.size + 1 < W4.heap.size := by omega
      clear hg4 hc4 hf4
      go_wp2_with fail
      refine (r_check_is true n d v e 2 HD.out HV.out HE.out HC.out _).mono ?_
      rintro eE W5 ⟨rfl, hg5⟩
      have hb5 : Below w.heap.size w W5 := (show Below w.heap.size w _ by go_grown).trans (hg5.mono (by first | omega | go_size))
      obtain ⟨hc5, hf5⟩ := bcell hg5
      have hs5 := hg5.size
      try simp only [World.size_alloc, World.size_setCell, World.size_drew] at hs5
      have hl5_0_0 : W5.cell? ⟨w.heap.size, 0, none⟩ = some (.bool false) := (hc5 _ _ (by first | omega | go_size)).trans (by first | (with_reducible assumption) | go_cell)
      have hz5_0_0 : W5.frozen? ⟨w.heap.size, 0, none⟩ = false := (hf5 _ _ (by first | omega | go_size)).trans (by first | (with_reducible assumption) | (go_simp; done) | (simp [*]; done))
      have hl5_0_1 : W5.cell? ⟨w.heap.size, 1, none⟩ = some (num 0) := (hc5 _ _ (by first | omega | go_size)).trans (by first | (with_reducible assumption) | go_cell)
      have hz5_0_1 : W5.frozen? ⟨w.heap.size, 1, none⟩ = false := (hf5 _ _ (by first | omega | go_size)).trans (by first | (with_reducible assumption) | (go_simp; done) | (simp [*]; done))
      have hl5_0_2 : W5.cell? ⟨w.heap.size, 2, none⟩ = some (u64 0) := (hc5 _ _ (by first | omega | go_size)).trans (by first | (with_reducible assumption) | go_cell)
      have hz5_0_2 : W5.frozen? ⟨w.heap.size, 2, none⟩ = false := (hf5 _ _ (by first | omega | go_size)).trans (by first | (with_reducible assumption) | (go_simp; done) | (simp [*]; done))
      have hl5_0_3 : W5.cell? ⟨w.heap.size, 3, none⟩ = some (u64 0) := (hc5 _ _ (by first | omega | go_size)).trans (by first | (with_reducible assumption) | go_cell)
      have hz5_0_3 : W5.frozen? ⟨w.heap.size, 3, none⟩ = false := (hf5 _ _ (by first | omega | go_size)).trans (by first | (with_reducible assumption) | (go_simp; done) | (simp [*]; done))
      have hl5_0_4 : W5.cell? ⟨w.heap.size, 4, none⟩ = some (u64 0) := (hc5 _ _ (by first | omega | go_size)).trans (by first | (with_reducible assumption) | go_cell)
      have hz5_0_4 : W5.frozen? ⟨w.heap.size, 4, none⟩ = false := (hf5 _ _ (by first | omega | go_size)).trans (by first | (with_reducible assumption) | (go_simp; done) | (simp [*]; done))
      have hk5_0 : w.heap.size < W5.heap.size := by omega
      have hl5_1_0 : W5.cell? ⟨w.heap.size + 1, 0, none⟩ = some (.bool true) := (hc5 _ _ (by first | omega | go_size)).trans (by first | (with_reducible assumption) | go_cell)
      have hz5_1_0 : W5.frozen? ⟨w.heap.size + 1, 0, none⟩ = false := (hf5 _ _ (by first | omega | go_size)).trans (by first | (with_reducible assumption) | (go_simp; done) | (simp [*]; done))
      have hl5_1_1 : W5.cell? ⟨w.heap.size + 1, 1, none⟩ = some (num n) := (hc5 _ _ (by first | omega | go_size)).trans (by first | (with_reducible assumption) | go_cell)
      have hz5_1_1 : W5.frozen? ⟨w.heap.size + 1, 1, none⟩ = false := (hf5 _ _ (by first | omega | go_size)).trans (by first | (with_reducible assumption) | (go_simp; done) | (simp [*]; done))
      have hl5_1_2 : W5.cell? ⟨w.heap.size + 1, 2, none⟩ = some (u64 d) := (hc5 _ _ (by first | omega | go_size)).trans (by first | (with_reducible assumption) | go_cell)
      have hz5_1_2 : W5.frozen? ⟨w.heap.size + 1, 2, none⟩ = false := (hf5 _ _ (by first | omega | go_size)).trans (by first | (with_reducible assumption) | (go_simp; done) | (simp [*]; done))
      have hl5_1_3 : W5.cell? ⟨w.heap.size + 1, 3, none⟩ = some (u64 v) := (hc5 _ _ (by first | omega | go_size)).trans (by first | (with_reducible assumption) | go_cell)
      have hz5_1_3 : W5.frozen? ⟨w.heap.size + 1, 3, none⟩ = false := (hf5 _ _ (by first | omega | go_size)).trans (by first | (with_reducible assumption) | (go_simp; done) | (simp [*]; done))
      have hl5_1_4 : W5.cell? ⟨w.heap.size + 1, 4, none⟩ = some (u64 e) := (hc5 _ _ (by first | omega | go_size)).trans (by first | (with_reducible assumption) | go_cell)
      have hz5_1_4 : W5.frozen? ⟨w.heap.size + 1, 4, none⟩ = false := (hf5 _ _ (by first | omega | go_size)).trans (by first | (with_reducible assumption) | (go_simp; done) | (simp [*]; done))
      have hk5_1 : w.heap.size + 1 < W5.heap.size := by omega
      clear hg5 hc5 hf5
      go_wp2_with fail
      refine Lib.bodyPost_at5 (B := w.heap.size) (w := w) (w.heap.size) (.bool false) (num 0) (u64 0) (u64 0) (u64 0) (.tuple #[ringV false 0 0 0 0, u64 0, num 2]) ?_ ?_ ?_ ?_ ?_ ?_ rfl ?_ (fun WG hWG => ⟨rfl, hWG⟩)
      · first | (with_reducible assumption) | go_cell | (go_simp; done) | (simp [*]; done)
      · first | (with_reducible assumption) | go_cell | (go_simp; done) | (simp [*]; done)
      · first | (with_reducible assumption) | go_cell | (go_simp; done) | (simp [*]; done)
      · first | (with_reducible assumption) | go_cell | (go_simp; done) | (simp [*]; done)
      · first | (with_reducible assumption) | go_cell | (go_simp; done) | (simp [*]; done)
      · go_grown
      · intro WG qr0 qr1 qr2 qr3 qr4
        simp [results, Try.results72, go_sem, qr0, qr1, qr2, qr3, qr4]
    | true =>
    obtain rfl : r = (true, n, d, v, e, n5, 0) := by rw [← hr, if_neg (by unfold badPlace; rw [hc, E1.out, E2.out, E3.out, decide_eq_false l1, decide_eq_false l2, decide_eq_false l3]; decide), E4.out, E5.out]
    have HC := Lib.hid (show (if checkB true n d v e = true then (0 : Int) else 2) = 0 from by rw [hc]; rfl)
    clear hr hc
    refine (r_align_g n2 4 e 0 HN2.out p2_4 HA3.out _).mono ?_
    rintro eE W4 ⟨rfl, hg4⟩
    have hb4 : Below w.heap.size w W4 := (show Below w.heap.size w _ by go_grown).trans (hg4.mono (by first | omega | go_size))
    obtain ⟨hc4, hf4⟩ := bcell hg4
    have hs4 := hg4.size
    try simp only [World.size_alloc, World.size_setCell, World.size_drew] at hs4
    have hl4_0_0 : W4.cell? ⟨w.heap.size, 0, none⟩ = some (.bool false) := (hc4 _ _ (by first | omega | go_size)).trans (by first | (with_reducible assumption) | go_cell)
    have hz4_0_0 : W4.frozen? ⟨w.heap.size, 0, none⟩ = false := (hf4 _ _ (by first | omega | go_size)).trans (by first | (with_reducible assumption) | (go_simp; done) | (simp [*]; done))
    have hl4_0_1 : W4.cell? ⟨w.heap.size, 1, none⟩ = some (num 0) := (hc4 _ _ (by first | omega | go_size)).trans (by first | (with_reducible assumption) | go_cell)
    have hz4_0_1 : W4.frozen? ⟨w.heap.size, 1, none⟩ = false := (hf4 _ _ (by first | omega | go_size)).trans (by first | (with_reducible assumption) | (go_simp; done) | (simp [*]; done))
    have hl4_0_2 : W4.cell? ⟨w.heap.size, 2, none⟩ = some (u64 0) := (hc4 _ _ (by first | omega | go_size)).trans (by first | (with_reducible assumption) | go_cell)
    have hz4_0_2 : W4.frozen? ⟨w.heap.size, 2, none⟩ = false := (hf4 _ _ (by first | omega | go_size)).trans (by first | (with_reducible assumption) | (go_simp; done) | (simp [*]; done))
    have hl4_0_3 : W4.cell? ⟨w.heap.size, 3, none⟩ = some (u64 0) := (hc4 _ _ (by first | omega | go_size)).trans (by first | (with_reducible assumption) | go_cell)
    have hz4_0_3 : W4.frozen? ⟨w.heap.size, 3, none⟩ = false := (hf4 _ _ (by first | omega | go_size)).trans (by first | (with_reducible assumption) | (go_simp; done) | (simp [*]; done))
    have hl4_0_4 : W4.cell? ⟨w.heap.size, 4, none⟩ = some (u64 0) := (hc4 _ _ (by first | omega | go_size)).trans (by first | (with_reducible assumption) | go_cell)
    have hz4_0_4 : W4.frozen? ⟨w.heap.size, 4, none⟩ = false := (hf4 _ _ (by first | omega | go_size)).trans (by first | (with_reducible assumption) | (go_simp; done) | (simp [*]; done))
    have hk4_0 : w.heap.size < W4.heap.size := by omega
    have hl4_1_0 : W4.cell? ⟨w.heap.size + 1, 0, none⟩ = some (.bool true) := (hc4 _ _ (by first | omega | go_size)).trans (by first | (with_reducible assumption) | go_cell)
    have hz4_1_0 : W4.frozen? ⟨w.heap.size + 1, 0, none⟩ = false := (hf4 _ _ (by first | omega | go_size)).trans (by first | (with_reducible assumption) | (go_simp; done) | (simp [*]; done))
    have hl4_1_1 : W4.cell? ⟨w.heap.size + 1, 1, none⟩ = some (num n) := (hc4 _ _ (by first | omega | go_size)).trans (by first | (with_reducible assumption) | go_cell)
    have hz4_1_1 : W4.frozen? ⟨w.heap.size + 1, 1, none⟩ = false := (hf4 _ _ (by first | omega | go_size)).trans (by first | (with_reducible assumption) | (go_simp; done) | (simp [*]; done))
    have hl4_1_2 : W4.cell? ⟨w.heap.size + 1, 2, none⟩ = some (u64 d) := (hc4 _ _ (by first | omega | go_size)).trans (by first | (with_reducible assumption) | go_cell)
    have hz4_1_2 : W4.frozen? ⟨w.heap.size + 1, 2, none⟩ = false := (hf4 _ _ (by first | omega | go_size)).trans (by first | (with_reducible assumption) | (go_simp; done) | (simp [*]; done))
    have hl4_1_3 : W4.cell? ⟨w.heap.size + 1, 3, none⟩ = some (u64 v) := (hc4 _ _ (by first | omega | go_size)).trans (by first | (with_reducible assumption) | go_cell)
    have hz4_1_3 : W4.frozen? ⟨w.heap.size + 1, 3, none⟩ = false := (hf4 _ _ (by first | omega | go_size)).trans (by first | (with_reducible assumption) | (go_simp; done) | (simp [*]; done))
    have hl4_1_4 : W4.cell? ⟨w.heap.size + 1, 4, none⟩ = some (u64 0) := (hc4 _ _ (by first | omega | go_size)).trans (by first | (with_reducible assumption) | go_cell)
    have hz4_1_4 : W4.frozen? ⟨w.heap.size + 1, 4, none⟩ = false := (hf4 _ _ (by first | omega | go_size)).trans (by first | (with_reducible assumption) | (go_simp; done) | (simp [*]; done))
    have hk4_1 : w.heap.size + 1 < W4.heap.size := by omega
    clear hg4 hc4 hf4
    go_wp2_with fail
    refine (r_check_is true n d v e 0 HD.out HV.out HE.out HC.out _).mono ?_
    rintro eE W5 ⟨rfl, hg5⟩
    have hb5 : Below w.heap.size w W5 := (show Below w.heap.size w _ by go_grown).trans (hg5.mono (by first | omega | go_size))
    obtain ⟨hc5, hf5⟩ := bcell hg5
    have hs5 := hg5.size
    try simp only [World.size_alloc, World.size_setCell, World.size_drew] at hs5
    have hl5_0_0 : W5.cell? ⟨w.heap.size, 0, none⟩ = some (.bool false) := (hc5 _ _ (by first | omega | go_size)).trans (by first | (with_reducible assumption) | go_cell)
    have hz5_0_0 : W5.frozen? ⟨w.heap.size, 0, none⟩ = false := (hf5 _ _ (by first | omega | go_size)).trans (by first | (with_reducible assumption) | (go_simp; done) | (simp [*]; done))
    have hl5_0_1 : W5.cell? ⟨w.heap.size, 1, none⟩ = some (num 0) := (hc5 _ _ (by first | omega | go_size)).trans (by first | (with_reducible assumption) | go_cell)
    have hz5_0_1 : W5.frozen? ⟨w.heap.size, 1, none⟩ = false := (hf5 _ _ (by first | omega | go_size)).trans (by first | (with_reducible assumption) | (go_simp; done) | (simp [*]; done))
    have hl5_0_2 : W5.cell? ⟨w.heap.size, 2, none⟩ = some (u64 0) := (hc5 _ _ (by first | omega | go_size)).trans (by first | (with_reducible assumption) | go_cell)
    have hz5_0_2 : W5.frozen? ⟨w.heap.size, 2, none⟩ = false := (hf5 _ _ (by first | omega | go_size)).trans (by first | (with_reducible assumption) | (go_simp; done) | (simp [*]; done))
    have hl5_0_3 : W5.cell? ⟨w.heap.size, 3, none⟩ = some (u64 0) := (hc5 _ _ (by first | omega | go_size)).trans (by first | (with_reducible assumption) | go_cell)
    have hz5_0_3 : W5.frozen? ⟨w.heap.size, 3, none⟩ = false := (hf5 _ _ (by first | omega | go_size)).trans (by first | (with_reducible assumption) | (go_simp; done) | (simp [*]; done))
    have hl5_0_4 : W5.cell? ⟨w.heap.size, 4, none⟩ = some (u64 0) := (hc5 _ _ (by first | omega | go_size)).trans (by first | (with_reducible assumption) | go_cell)
    have hz5_0_4 : W5.frozen? ⟨w.heap.size, 4, none⟩ = false := (hf5 _ _ (by first | omega | go_size)).trans (by first | (with_reducible assumption) | (go_simp; done) | (simp [*]; done))
    have hk5_0 : w.heap.size < W5.heap.size := by omega
    have hl5_1_0 : W5.cell? ⟨w.heap.size + 1, 0, none⟩ = some (.bool true) := (hc5 _ _ (by first | omega | go_size)).trans (by first | (with_reducible assumption) | go_cell)
    have hz5_1_0 : W5.frozen? ⟨w.heap.size + 1, 0, none⟩ = false := (hf5 _ _ (by first | omega | go_size)).trans (by first | (with_reducible assumption) | (go_simp; done) | (simp [*]; done))
    have hl5_1_1 : W5.cell? ⟨w.heap.size + 1, 1, none⟩ = some (num n) := (hc5 _ _ (by first | omega | go_size)).trans (by first | (with_reducible assumption) | go_cell)
    have hz5_1_1 : W5.frozen? ⟨w.heap.size + 1, 1, none⟩ = false := (hf5 _ _ (by first | omega | go_size)).trans (by first | (with_reducible assumption) | (go_simp; done) | (simp [*]; done))
    have hl5_1_2 : W5.cell? ⟨w.heap.size + 1, 2, none⟩ = some (u64 d) := (hc5 _ _ (by first | omega | go_size)).trans (by first | (with_reducible assumption) | go_cell)
    have hz5_1_2 : W5.frozen? ⟨w.heap.size + 1, 2, none⟩ = false := (hf5 _ _ (by first | omega | go_size)).trans (by first | (with_reducible assumption) | (go_simp; done) | (simp [*]; done))
    have hl5_1_3 : W5.cell? ⟨w.heap.size + 1, 3, none⟩ = some (u64 v) := (hc5 _ _ (by first | omega | go_size)).trans (by first | (with_reducible assumption) | go_cell)
    have hz5_1_3 : W5.frozen? ⟨w.heap.size + 1, 3, none⟩ = false := (hf5 _ _ (by first | omega | go_size)).trans (by first | (with_reducible assumption) | (go_simp; done) | (simp [*]; done))
    have hl5_1_4 : W5.cell? ⟨w.heap.size + 1, 4, none⟩ = some (u64 e) := (hc5 _ _ (by first | omega | go_size)).trans (by first | (with_reducible assumption) | go_cell)
    have hz5_1_4 : W5.frozen? ⟨w.heap.size + 1, 4, none⟩ = false := (hf5 _ _ (by first | omega | go_size)).trans (by first | (with_reducible assumption) | (go_simp; done) | (simp [*]; done))
    have hk5_1 : w.heap.size + 1 < W5.heap.size := by omega
    clear hg5 hc5 hf5
    go_wp2_with fail
    go_region
    go_wp2_with fail
    refine Lib.bodyPost_at5 (B := w.heap.size) (w := w) (w.heap.size) (.bool true) (num n) (u64 d) (u64 v) (u64 e) (.tuple #[ringV true n d v e, u64 n5, num 0]) ?_ ?_ ?_ ?_ ?_ ?_ rfl ?_ (fun WG hWG => ⟨rfl, hWG⟩)
    · first | (with_reducible assumption) | go_cell | (go_simp; done) | (simp [*]; done)
    · first | (with_reducible assumption) | go_cell | (go_simp; done) | (simp [*]; done)
    · first | (with_reducible assumption) | go_cell | (go_simp; done) | (simp [*]; done)
    · first | (with_reducible assumption) | go_cell | (go_simp; done) | (simp [*]; done)
    · first | (with_reducible assumption) | go_cell | (go_simp; done) | (simp [*]; done)
    · go_grown
    · intro WG qr0 qr1 qr2 qr3 qr4
      simp [results, Try.results72, go_sem, qr0, qr1, qr2, qr3, qr4]
  | false =>
    have hr : (if badPlace false n d f1 v f2 e f3 x y z = true then noPlace else (false, n, d, v, e, w64 (w64 (e + z) - b), 0)) = r := hr
    go_enter Try.func72, Try.ntmps72
    go_wp2_with fail
    refine (r_parts_is false n 0 0 0 x y z HP.out _).mono ?_
    rintro eE W1 ⟨rfl, hg1⟩
    have hb1 : Below w.heap.size w W1 := (show Below w.heap.size w _ by go_grown).trans (hg1.mono (by first | omega | go_size))
    obtain ⟨hc1, hf1⟩ := bcell hg1
    have hs1 := hg1.size
    try simp only [World.size_alloc, World.size_setCell, World.size_drew] at hs1
    have hl1_0_0 : W1.cell? ⟨w.heap.size, 0, none⟩ = some (.bool false) := (hc1 _ _ (by first | omega | go_size)).trans (by first | (with_reducible assumption) | go_cell)
    have hz1_0_0 : W1.frozen? ⟨w.heap.size, 0, none⟩ = false := (hf1 _ _ (by first | omega | go_size)).trans (by first | (with_reducible assumption) | (go_simp; done) | (simp [*]; done))
    have hl1_0_1 : W1.cell? ⟨w.heap.size, 1, none⟩ = some (num 0) := (hc1 _ _ (by first | omega | go_size)).trans (by first | (with_reducible assumption) | go_cell)
    have hz1_0_1 : W1.frozen? ⟨w.heap.size, 1, none⟩ = false := (hf1 _ _ (by first | omega | go_size)).trans (by first | (with_reducible assumption) | (go_simp; done) | (simp [*]; done))
    have hl1_0_2 : W1.cell? ⟨w.heap.size, 2, none⟩ = some (u64 0) := (hc1 _ _ (by first | omega | go_size)).trans (by first | (with_reducible assumption) | go_cell)
    have hz1_0_2 : W1.frozen? ⟨w.heap.size, 2, none⟩ = false := (hf1 _ _ (by first | omega | go_size)).trans (by first | (with_reducible assumption) | (go_simp; done) | (simp [*]; done))
    have hl1_0_3 : W1.cell? ⟨w.heap.size, 3, none⟩ = some (u64 0) := (hc1 _ _ (by first | omega | go_size)).trans (by first | (with_reducible assumption) | go_cell)
    have hz1_0_3 : W1.frozen? ⟨w.heap.size, 3, none⟩ = false := (hf1 _ _ (by first | omega | go_size)).trans (by first | (with_reducible assumption) | (go_simp; done) | (simp [*]; done))
    have hl1_0_4 : W1.cell? ⟨w.heap.size, 4, none⟩ = some (u64 0) := (hc1 _ _ (by first | omega | go_size)).trans (by first | (with_reducible assumption) | go_cell)
    have hz1_0_4 : W1.frozen? ⟨w.heap.size, 4, none⟩ = false := (hf1 _ _ (by first | omega | go_size)).trans (by first | (with_reducible assumption) | (go_simp; done) | (simp [*]; done))
    have hk1_0 : w.heap.size < W1.heap.size := by omega
    have hl1_1_0 : W1.cell? ⟨w.heap.size + 1, 0, none⟩ = some (.bool false) := (hc1 _ _ (by first | omega | go_size)).trans (by first | (with_reducible assumption) | go_cell)
    have hz1_1_0 : W1.frozen? ⟨w.heap.size + 1, 0, none⟩ = false := (hf1 _ _ (by first | omega | go_size)).trans (by first | (with_reducible assumption) | (go_simp; done) | (simp [*]; done))
    have hl1_1_1 : W1.cell? ⟨w.heap.size + 1, 1, none⟩ = some (num n) := (hc1 _ _ (by first | omega | go_size)).trans (by first | (with_reducible assumption) | go_cell)
    have hz1_1_1 : W1.frozen? ⟨w.heap.size + 1, 1, none⟩ = false := (hf1 _ _ (by first | omega | go_size)).trans (by first | (with_reducible assumption) | (go_simp; done) | (simp [*]; done))
    have hl1_1_2 : W1.cell? ⟨w.heap.size + 1, 2, none⟩ = some (u64 0) := (hc1 _ _ (by first | omega | go_size)).trans (by first | (with_reducible assumption) | go_cell)
    have hz1_1_2 : W1.frozen? ⟨w.heap.size + 1, 2, none⟩ = false := (hf1 _ _ (by first | omega | go_size)).trans (by first | (with_reducible assumption) | (go_simp; done) | (simp [*]; done))
    have hl1_1_3 : W1.cell? ⟨w.heap.size + 1, 3, none⟩ = some (u64 0) := (hc1 _ _ (by first | omega | go_size)).trans (by first | (with_reducible assumption) | go_cell)
    have hz1_1_3 : W1.frozen? ⟨w.heap.size + 1, 3, none⟩ = false := (hf1 _ _ (by first | omega | go_size)).trans (by first | (with_reducible assumption) | (go_simp; done) | (simp [*]; done))
    have hl1_1_4 : W1.cell? ⟨w.heap.size + 1, 4, none⟩ = some (u64 0) := (hc1 _ _ (by first | omega | go_size)).trans (by first | (with_reducible assumption) | go_cell)
    have hz1_1_4 : W1.frozen? ⟨w.heap.size + 1, 4, none⟩ = false := (hf1 _ _ (by first | omega | go_size)).trans (by first | (with_reducible assumption) | (go_simp; done) | (simp [*]; done))
    have hk1_1 : w.heap.size + 1 < W1.heap.size := by omega
    clear hg1 hc1 hf1
    go_wp2_with fail
    refine (r_align_g b 16 d f1 HB.out p2_16 HA1.out _).mono ?_
    rintro eE W2 ⟨rfl, hg2⟩
    have hb2 : Below w.heap.size w W2 := (show Below w.heap.size w _ by go_grown).trans (hg2.mono (by first | omega | go_size))
    obtain ⟨hc2, hf2⟩ := bcell hg2
    have hs2 := hg2.size
    try simp only [World.size_alloc, World.size_setCell, World.size_drew] at hs2
    have hl2_0_0 : W2.cell? ⟨w.heap.size, 0, none⟩ = some (.bool false) := (hc2 _ _ (by first | omega | go_size)).trans (by first | (with_reducible assumption) | go_cell)
    have hz2_0_0 : W2.frozen? ⟨w.heap.size, 0, none⟩ = false := (hf2 _ _ (by first | omega | go_size)).trans (by first | (with_reducible assumption) | (go_simp; done) | (simp [*]; done))
    have hl2_0_1 : W2.cell? ⟨w.heap.size, 1, none⟩ = some (num 0) := (hc2 _ _ (by first | omega | go_size)).trans (by first | (with_reducible assumption) | go_cell)
    have hz2_0_1 : W2.frozen? ⟨w.heap.size, 1, none⟩ = false := (hf2 _ _ (by first | omega | go_size)).trans (by first | (with_reducible assumption) | (go_simp; done) | (simp [*]; done))
    have hl2_0_2 : W2.cell? ⟨w.heap.size, 2, none⟩ = some (u64 0) := (hc2 _ _ (by first | omega | go_size)).trans (by first | (with_reducible assumption) | go_cell)
    have hz2_0_2 : W2.frozen? ⟨w.heap.size, 2, none⟩ = false := (hf2 _ _ (by first | omega | go_size)).trans (by first | (with_reducible assumption) | (go_simp; done) | (simp [*]; done))
    have hl2_0_3 : W2.cell? ⟨w.heap.size, 3, none⟩ = some (u64 0) := (hc2 _ _ (by first | omega | go_size)).trans (by first | (with_reducible assumption) | go_cell)
    have hz2_0_3 : W2.frozen? ⟨w.heap.size, 3, none⟩ = false := (hf2 _ _ (by first | omega | go_size)).trans (by first | (with_reducible assumption) | (go_simp; done) | (simp [*]; done))
    have hl2_0_4 : W2.cell? ⟨w.heap.size, 4, none⟩ = some (u64 0) := (hc2 _ _ (by first | omega | go_size)).trans (by first | (with_reducible assumption) | go_cell)
    have hz2_0_4 : W2.frozen? ⟨w.heap.size, 4, none⟩ = false := (hf2 _ _ (by first | omega | go_size)).trans (by first | (with_reducible assumption) | (go_simp; done) | (simp [*]; done))
    have hk2_0 : w.heap.size < W2.heap.size := by omega
    have hl2_1_0 : W2.cell? ⟨w.heap.size + 1, 0, none⟩ = some (.bool false) := (hc2 _ _ (by first | omega | go_size)).trans (by first | (with_reducible assumption) | go_cell)
    have hz2_1_0 : W2.frozen? ⟨w.heap.size + 1, 0, none⟩ = false := (hf2 _ _ (by first | omega | go_size)).trans (by first | (with_reducible assumption) | (go_simp; done) | (simp [*]; done))
    have hl2_1_1 : W2.cell? ⟨w.heap.size + 1, 1, none⟩ = some (num n) := (hc2 _ _ (by first | omega | go_size)).trans (by first | (with_reducible assumption) | go_cell)
    have hz2_1_1 : W2.frozen? ⟨w.heap.size + 1, 1, none⟩ = false := (hf2 _ _ (by first | omega | go_size)).trans (by first | (with_reducible assumption) | (go_simp; done) | (simp [*]; done))
    have hl2_1_2 : W2.cell? ⟨w.heap.size + 1, 2, none⟩ = some (u64 0) := (hc2 _ _ (by first | omega | go_size)).trans (by first | (with_reducible assumption) | go_cell)
    have hz2_1_2 : W2.frozen? ⟨w.heap.size + 1, 2, none⟩ = false := (hf2 _ _ (by first | omega | go_size)).trans (by first | (with_reducible assumption) | (go_simp; done) | (simp [*]; done))
    have hl2_1_3 : W2.cell? ⟨w.heap.size + 1, 3, none⟩ = some (u64 0) := (hc2 _ _ (by first | omega | go_size)).trans (by first | (with_reducible assumption) | go_cell)
    have hz2_1_3 : W2.frozen? ⟨w.heap.size + 1, 3, none⟩ = false := (hf2 _ _ (by first | omega | go_size)).trans (by first | (with_reducible assumption) | (go_simp; done) | (simp [*]; done))
    have hl2_1_4 : W2.cell? ⟨w.heap.size + 1, 4, none⟩ = some (u64 0) := (hc2 _ _ (by first | omega | go_size)).trans (by first | (with_reducible assumption) | go_cell)
    have hz2_1_4 : W2.frozen? ⟨w.heap.size + 1, 4, none⟩ = false := (hf2 _ _ (by first | omega | go_size)).trans (by first | (with_reducible assumption) | (go_simp; done) | (simp [*]; done))
    have hk2_1 : w.heap.size + 1 < W2.heap.size := by omega
    clear hg2 hc2 hf2
    go_wp2_with fail
    refine (r_align_g n1 2 v f2 HN1.out p2_2 HA2.out _).mono ?_
    rintro eE W3 ⟨rfl, hg3⟩
    have hb3 : Below w.heap.size w W3 := (show Below w.heap.size w _ by go_grown).trans (hg3.mono (by first | omega | go_size))
    obtain ⟨hc3, hf3⟩ := bcell hg3
    have hs3 := hg3.size
    try simp only [World.size_alloc, World.size_setCell, World.size_drew] at hs3
    have hl3_0_0 : W3.cell? ⟨w.heap.size, 0, none⟩ = some (.bool false) := (hc3 _ _ (by first | omega | go_size)).trans (by first | (with_reducible assumption) | go_cell)
    have hz3_0_0 : W3.frozen? ⟨w.heap.size, 0, none⟩ = false := (hf3 _ _ (by first | omega | go_size)).trans (by first | (with_reducible assumption) | (go_simp; done) | (simp [*]; done))
    have hl3_0_1 : W3.cell? ⟨w.heap.size, 1, none⟩ = some (num 0) := (hc3 _ _ (by first | omega | go_size)).trans (by first | (with_reducible assumption) | go_cell)
    have hz3_0_1 : W3.frozen? ⟨w.heap.size, 1, none⟩ = false := (hf3 _ _ (by first | omega | go_size)).trans (by first | (with_reducible assumption) | (go_simp; done) | (simp [*]; done))
    have hl3_0_2 : W3.cell? ⟨w.heap.size, 2, none⟩ = some (u64 0) := (hc3 _ _ (by first | omega | go_size)).trans (by first | (with_reducible assumption) | go_cell)
    have hz3_0_2 : W3.frozen? ⟨w.heap.size, 2, none⟩ = false := (hf3 _ _ (by first | omega | go_size)).trans (by first | (with_reducible assumption) | (go_simp; done) | (simp [*]; done))
    have hl3_0_3 : W3.cell? ⟨w.heap.size, 3, none⟩ = some (u64 0) := (hc3 _ _ (by first | omega | go_size)).trans (by first | (with_reducible assumption) | go_cell)
    have hz3_0_3 : W3.frozen? ⟨w.heap.size, 3, none⟩ = false := (hf3 _ _ (by first | omega | go_size)).trans (by first | (with_reducible assumption) | (go_simp; done) | (simp [*]; done))
    have hl3_0_4 : W3.cell? ⟨w.heap.size, 4, none⟩ = some (u64 0) := (hc3 _ _ (by first | omega | go_size)).trans (by first | (with_reducible assumption) | go_cell)
    have hz3_0_4 : W3.frozen? ⟨w.heap.size, 4, none⟩ = false := (hf3 _ _ (by first | omega | go_size)).trans (by first | (with_reducible assumption) | (go_simp; done) | (simp [*]; done))
    have hk3_0 : w.heap.size < W3.heap.size := by omega
    have hl3_1_0 : W3.cell? ⟨w.heap.size + 1, 0, none⟩ = some (.bool false) := (hc3 _ _ (by first | omega | go_size)).trans (by first | (with_reducible assumption) | go_cell)
    have hz3_1_0 : W3.frozen? ⟨w.heap.size + 1, 0, none⟩ = false := (hf3 _ _ (by first | omega | go_size)).trans (by first | (with_reducible assumption) | (go_simp; done) | (simp [*]; done))
    have hl3_1_1 : W3.cell? ⟨w.heap.size + 1, 1, none⟩ = some (num n) := (hc3 _ _ (by first | omega | go_size)).trans (by first | (with_reducible assumption) | go_cell)
    have hz3_1_1 : W3.frozen? ⟨w.heap.size + 1, 1, none⟩ = false := (hf3 _ _ (by first | omega | go_size)).trans (by first | (with_reducible assumption) | (go_simp; done) | (simp [*]; done))
    have hl3_1_2 : W3.cell? ⟨w.heap.size + 1, 2, none⟩ = some (u64 d) := (hc3 _ _ (by first | omega | go_size)).trans (by first | (with_reducible assumption) | go_cell)
    have hz3_1_2 : W3.frozen? ⟨w.heap.size + 1, 2, none⟩ = false := (hf3 _ _ (by first | omega | go_size)).trans (by first | (with_reducible assumption) | (go_simp; done) | (simp [*]; done))
    have hl3_1_3 : W3.cell? ⟨w.heap.size + 1, 3, none⟩ = some (u64 0) := (hc3 _ _ (by first | omega | go_size)).trans (by first | (with_reducible assumption) | go_cell)
    have hz3_1_3 : W3.frozen? ⟨w.heap.size + 1, 3, none⟩ = false := (hf3 _ _ (by first | omega | go_size)).trans (by first | (with_reducible assumption) | (go_simp; done) | (simp [*]; done))
    have hl3_1_4 : W3.cell? ⟨w.heap.size + 1, 4, none⟩ = some (u64 0) := (hc3 _ _ (by first | omega | go_size)).trans (by first | (with_reducible assumption) | go_cell)
    have hz3_1_4 : W3.frozen? ⟨w.heap.size + 1, 4, none⟩ = false := (hf3 _ _ (by first | omega | go_size)).trans (by first | (with_reducible assumption) | (go_simp; done) | (simp [*]; done))
    have hk3_1 : w.heap.size + 1 < W3.heap.size := by omega
    clear hg3 hc3 hf3
    go_wp2_with fail
    rcases F1 with rfl | rfl
    case inr =>
      obtain rfl : r = noPlace := by rw [← hr, if_pos (by unfold badPlace; rfl)]
      clear hr
      refine (r_align_g n2 4 e f3 HN2.out p2_4 HA3.out _).mono ?_
      rintro eE W4 ⟨rfl, hg4⟩
      have hb4 : Below w.heap.size w W4 := (show Below w.heap.size w _ by go_grown).trans (hg4.mono (by first | omega | go_size))
      obtain ⟨hc4, hf4⟩ := bcell hg4
      have hs4 := hg4.size
      try simp only [World.size_alloc, World.size_setCell, World.size_drew] at hs4
      have hl4_0_0 : W4.cell? ⟨w.heap.size, 0, none⟩ = some (.bool false) := (hc4 _ _ (by first | omega | go_size)).trans (by first | (with_reducible assumption) | go_cell)
      have hz4_0_0 : W4.frozen? ⟨w.heap.size, 0, none⟩ = false := (hf4 _ _ (by first | omega | go_size)).trans (by first | (with_reducible assumption) | (go_simp; done) | (simp [*]; done))
      have hl4_0_1 : W4.cell? ⟨w.heap.size, 1, none⟩ = some (num 0) := (hc4 _ _ (by first | omega | go_size)).trans (by first | (with_reducible assumption) | go_cell)
      have hz4_0_1 : W4.frozen? ⟨w.heap.size, 1, none⟩ = false := (hf4 _ _ (by first | omega | go_size)).trans (by first | (with_reducible assumption) | (go_simp; done) | (simp [*]; done))
      have hl4_0_2 : W4.cell? ⟨w.heap.size, 2, none⟩ = some (u64 0) := (hc4 _ _ (by first | omega | go_size)).trans (by first | (with_reducible assumption) | go_cell)
      have hz4_0_2 : W4.frozen? ⟨w.heap.size, 2, none⟩ = false := (hf4 _ _ (by first | omega | go_size)).trans (by first | (with_reducible assumption) | (go_simp; done) | (simp [*]; done))
      have hl4_0_3 : W4.cell? ⟨w.heap.size, 3, none⟩ = some (u64 0) := (hc4 _ _ (by first | omega | go_size)).trans (by first | (with_reducible assumption) | go_cell)
      have hz4_0_3 : W4.frozen? ⟨w.heap.size, 3, none⟩ = false := (hf4 _ _ (by first | omega | go_size)).trans (by first | (with_reducible assumption) | (go_simp; done) | (simp [*]; done))
      have hl4_0_4 : W4.cell? ⟨w.heap.size, 4, none⟩ = some (u64 0) := (hc4 _ _ (by first | omega | go_size)).trans (by first | (with_reducible assumption) | go_cell)
      have hz4_0_4 : W4.frozen? ⟨w.heap.size, 4, none⟩ = false := (hf4 _ _ (by first | omega | go_size)).trans (by first | (with_reducible assumption) | (go_simp; done) | (simp [*]; done))
      have hk4_0 : w.heap.size < W4.heap.size := by omega
      have hl4_1_0 : W4.cell? ⟨w.heap.size + 1, 0, none⟩ = some (.bool false) := (hc4 _ _ (by first | omega | go_size)).trans (by first | (with_reducible assumption) | go_cell)
      have hz4_1_0 : W4.frozen? ⟨w.heap.size + 1, 0, none⟩ = false := (hf4 _ _ (by first | omega | go_size)).trans (by first | (with_reducible assumption) | (go_simp; done) | (simp [*]; done))
      have hl4_1_1 : W4.cell? ⟨w.heap.size + 1, 1, none⟩ = some (num n) := (hc4 _ _ (by first | omega | go_size)).trans (by first | (with_reducible assumption) | go_cell)
      have hz4_1_1 : W4.frozen? ⟨w.heap.size + 1, 1, none⟩ = false := (hf4 _ _ (by first | omega | go_size)).trans (by first | (with_reducible assumption) | (go_simp; done) | (simp [*]; done))
      have hl4_1_2 : W4.cell? ⟨w.heap.size + 1, 2, none⟩ = some (u64 d) := (hc4 _ _ (by first | omega | go_size)).trans (by first | (with_reducible assumption) | go_cell)
      have hz4_1_2 : W4.frozen? ⟨w.heap.size + 1, 2, none⟩ = false := (hf4 _ _ (by first | omega | go_size)).trans (by first | (with_reducible assumption) | (go_simp; done) | (simp [*]; done))
      have hl4_1_3 : W4.cell? ⟨w.heap.size + 1, 3, none⟩ = some (u64 v) := (hc4 _ _ (by first | omega | go_size)).trans (by first | (with_reducible assumption) | go_cell)
      have hz4_1_3 : W4.frozen? ⟨w.heap.size + 1, 3, none⟩ = false := (hf4 _ _ (by first | omega | go_size)).trans (by first | (with_reducible assumption) | (go_simp; done) | (simp [*]; done))
      have hl4_1_4 : W4.cell? ⟨w.heap.size + 1, 4, none⟩ = some (u64 0) := (hc4 _ _ (by first | omega | go_size)).trans (by first | (with_reducible assumption) | go_cell)
      have hz4_1_4 : W4.frozen? ⟨w.heap.size + 1, 4, none⟩ = false := (hf4 _ _ (by first | omega | go_size)).trans (by first | (with_reducible assumption) | (go_simp; done) | (simp [*]; done))
      have hk4_1 : w.heap.size + 1 < W4.heap.size := by omega
      clear hg4 hc4 hf4
      go_wp2_with fail
      refine Lib.bodyPost_at5 (B := w.heap.size) (w := w) (w.heap.size) (.bool false) (num 0) (u64 0) (u64 0) (u64 0) (.tuple #[ringV false 0 0 0 0, u64 0, num 2]) ?_ ?_ ?_ ?_ ?_ ?_ rfl ?_ (fun WG hWG => ⟨rfl, hWG⟩)
      · first | (with_reducible assumption) | go_cell | (go_simp; done) | (simp [*]; done)
      · first | (with_reducible assumption) | go_cell | (go_simp; done) | (simp [*]; done)
      · first | (with_reducible assumption) | go_cell | (go_simp; done) | (simp [*]; done)
      · first | (with_reducible assumption) | go_cell | (go_simp; done) | (simp [*]; done)
      · first | (with_reducible assumption) | go_cell | (go_simp; done) | (simp [*]; done)
      · go_grown
      · intro WG qr0 qr1 qr2 qr3 qr4
        simp [results, Try.results72, go_sem, qr0, qr1, qr2, qr3, qr4]
    rcases F2 with rfl | rfl
    case inr =>
      obtain rfl : r = noPlace := by rw [← hr, if_pos (by unfold badPlace; rfl)]
      clear hr
      refine (r_align_g n2 4 e f3 HN2.out p2_4 HA3.out _).mono ?_
      rintro eE W4 ⟨rfl, hg4⟩
      have hb4 : Below w.heap.size w W4 := (show Below w.heap.size w _ by go_grown).trans (hg4.mono (by first | omega | go_size))
      obtain ⟨hc4, hf4⟩ := bcell hg4
      have hs4 := hg4.size
      try simp only [World.size_alloc, World.size_setCell, World.size_drew] at hs4
      have hl4_0_0 : W4.cell? ⟨w.heap.size, 0, none⟩ = some (.bool false) := (hc4 _ _ (by first | omega | go_size)).trans (by first | (with_reducible assumption) | go_cell)
      have hz4_0_0 : W4.frozen? ⟨w.heap.size, 0, none⟩ = false := (hf4 _ _ (by first | omega | go_size)).trans (by first | (with_reducible assumption) | (go_simp; done) | (simp [*]; done))
      have hl4_0_1 : W4.cell? ⟨w.heap.size, 1, none⟩ = some (num 0) := (hc4 _ _ (by first | omega | go_size)).trans (by first | (with_reducible assumption) | go_cell)
      have hz4_0_1 : W4.frozen? ⟨w.heap.size, 1, none⟩ = false := (hf4 _ _ (by first | omega | go_size)).trans (by first | (with_reducible assumption) | (go_simp; done) | (simp [*]; done))
      have hl4_0_2 : W4.cell? ⟨w.heap.size, 2, none⟩ = some (u64 0) := (hc4 _ _ (by first | omega | go_size)).trans (by first | (with_reducible assumption) | go_cell)
      have hz4_0_2 : W4.frozen? ⟨w.heap.size, 2, none⟩ = false := (hf4 _ _ (by first | omega | go_size)).trans (by first | (with_reducible assumption) | (go_simp; done) | (simp [*]; done))
      have hl4_0_3 : W4.cell? ⟨w.heap.size, 3, none⟩ = some (u64 0) := (hc4 _ _ (by first | omega | go_size)).trans (by first | (with_reducible assumption) | go_cell)
      have hz4_0_3 : W4.frozen? ⟨w.heap.size, 3, none⟩ = false := (hf4 _ _ (by first | omega | go_size)).trans (by first | (with_reducible assumption) | (go_simp; done) | (simp [*]; done))
      have hl4_0_4 : W4.cell? ⟨w.heap.size, 4, none⟩ = some (u64 0) := (hc4 _ _ (by first | omega | go_size)).trans (by first | (with_reducible assumption) | go_cell)
      have hz4_0_4 : W4.frozen? ⟨w.heap.size, 4, none⟩ = false := (hf4 _ _ (by first | omega | go_size)).trans (by first | (with_reducible assumption) | (go_simp; done) | (simp [*]; done))
      have hk4_0 : w.heap.size < W4.heap.size := by omega
      have hl4_1_0 : W4.cell? ⟨w.heap.size + 1, 0, none⟩ = some (.bool false) := (hc4 _ _ (by first | omega | go_size)).trans (by first | (with_reducible assumption) | go_cell)
      have hz4_1_0 : W4.frozen? ⟨w.heap.size + 1, 0, none⟩ = false := (hf4 _ _ (by first | omega | go_size)).trans (by first | (with_reducible assumption) | (go_simp; done) | (simp [*]; done))
      have hl4_1_1 : W4.cell? ⟨w.heap.size + 1, 1, none⟩ = some (num n) := (hc4 _ _ (by first | omega | go_size)).trans (by first | (with_reducible assumption) | go_cell)
      have hz4_1_1 : W4.frozen? ⟨w.heap.size + 1, 1, none⟩ = false := (hf4 _ _ (by first | omega | go_size)).trans (by first | (with_reducible assumption) | (go_simp; done) | (simp [*]; done))
      have hl4_1_2 : W4.cell? ⟨w.heap.size + 1, 2, none⟩ = some (u64 d) := (hc4 _ _ (by first | omega | go_size)).trans (by first | (with_reducible assumption) | go_cell)
      have hz4_1_2 : W4.frozen? ⟨w.heap.size + 1, 2, none⟩ = false := (hf4 _ _ (by first | omega | go_size)).trans (by first | (with_reducible assumption) | (go_simp; done) | (simp [*]; done))
      have hl4_1_3 : W4.cell? ⟨w.heap.size + 1, 3, none⟩ = some (u64 v) := (hc4 _ _ (by first | omega | go_size)).trans (by first | (with_reducible assumption) | go_cell)
      have hz4_1_3 : W4.frozen? ⟨w.heap.size + 1, 3, none⟩ = false := (hf4 _ _ (by first | omega | go_size)).trans (by first | (with_reducible assumption) | (go_simp; done) | (simp [*]; done))
      have hl4_1_4 : W4.cell? ⟨w.heap.size + 1, 4, none⟩ = some (u64 0) := (hc4 _ _ (by first | omega | go_size)).trans (by first | (with_reducible assumption) | go_cell)
      have hz4_1_4 : W4.frozen? ⟨w.heap.size + 1, 4, none⟩ = false := (hf4 _ _ (by first | omega | go_size)).trans (by first | (with_reducible assumption) | (go_simp; done) | (simp [*]; done))
      have hk4_1 : w.heap.size + 1 < W4.heap.size := by omega
      clear hg4 hc4 hf4
      go_wp2_with fail
      refine Lib.bodyPost_at5 (B := w.heap.size) (w := w) (w.heap.size) (.bool false) (num 0) (u64 0) (u64 0) (u64 0) (.tuple #[ringV false 0 0 0 0, u64 0, num 2]) ?_ ?_ ?_ ?_ ?_ ?_ rfl ?_ (fun WG hWG => ⟨rfl, hWG⟩)
      · first | (with_reducible assumption) | go_cell | (go_simp; done) | (simp [*]; done)
      · first | (with_reducible assumption) | go_cell | (go_simp; done) | (simp [*]; done)
      · first | (with_reducible assumption) | go_cell | (go_simp; done) | (simp [*]; done)
      · first | (with_reducible assumption) | go_cell | (go_simp; done) | (simp [*]; done)
      · first | (with_reducible assumption) | go_cell | (go_simp; done) | (simp [*]; done)
      · go_grown
      · intro WG qr0 qr1 qr2 qr3 qr4
        simp [results, Try.results72, go_sem, qr0, qr1, qr2, qr3, qr4]
    rcases F3 with rfl | rfl
    case inr =>
      obtain rfl : r = noPlace := by rw [← hr, if_pos (by unfold badPlace; rfl)]
      clear hr
      refine (r_align_g n2 4 e 2 HN2.out p2_4 HA3.out _).mono ?_
      rintro eE W4 ⟨rfl, hg4⟩
      have hb4 : Below w.heap.size w W4 := (show Below w.heap.size w _ by go_grown).trans (hg4.mono (by first | omega | go_size))
      obtain ⟨hc4, hf4⟩ := bcell hg4
      have hs4 := hg4.size
      try simp only [World.size_alloc, World.size_setCell, World.size_drew] at hs4
      have hl4_0_0 : W4.cell? ⟨w.heap.size, 0, none⟩ = some (.bool false) := (hc4 _ _ (by first | omega | go_size)).trans (by first | (with_reducible assumption) | go_cell)
      have hz4_0_0 : W4.frozen? ⟨w.heap.size, 0, none⟩ = false := (hf4 _ _ (by first | omega | go_size)).trans (by first | (with_reducible assumption) | (go_simp; done) | (simp [*]; done))
      have hl4_0_1 : W4.cell? ⟨w.heap.size, 1, none⟩ = some (num 0) := (hc4 _ _ (by first | omega | go_size)).trans (by first | (with_reducible assumption) | go_cell)
      have hz4_0_1 : W4.frozen? ⟨w.heap.size, 1, none⟩ = false := (hf4 _ _ (by first | omega | go_size)).trans (by first | (with_reducible assumption) | (go_simp; done) | (simp [*]; done))
      have hl4_0_2 : W4.cell? ⟨w.heap.size, 2, none⟩ = some (u64 0) := (hc4 _ _ (by first | omega | go_size)).trans (by first | (with_reducible assumption) | go_cell)
      have hz4_0_2 : W4.frozen? ⟨w.heap.size, 2, none⟩ = false := (hf4 _ _ (by first | omega | go_size)).trans (by first | (with_reducible assumption) | (go_simp; done) | (simp [*]; done))
      have hl4_0_3 : W4.cell? ⟨w.heap.size, 3, none⟩ = some (u64 0) := (hc4 _ _ (by first | omega | go_size)).trans (by first | (with_reducible assumption) | go_cell)
      have hz4_0_3 : W4.frozen? ⟨w.heap.size, 3, none⟩ = false := (hf4 _ _ (by first | omega | go_size)).trans (by first | (with_reducible assumption) | (go_simp; done) | (simp [*]; done))
      have hl4_0_4 : W4.cell? ⟨w.heap.size, 4, none⟩ = some (u64 0) := (hc4 _ _ (by first | omega | go_size)).trans (by first | (with_reducible assumption) | go_cell)
      have hz4_0_4 : W4.frozen? ⟨w.heap.size, 4, none⟩ = false := (hf4 _ _ (by first | omega | go_size)).trans (by first | (with_reducible assumption) | (go_simp; done) | (simp [*]; done))
      have hk4_0 : w.heap.size < W4.heap.size := by omega
      have hl4_1_0 : W4.cell? ⟨w.heap.size + 1, 0, none⟩ = some (.bool false) := (hc4 _ _ (by first | omega | go_size)).trans (by first | (with_reducible assumption) | go_cell)
      have hz4_1_0 : W4.frozen? ⟨w.heap.size + 1, 0, none⟩ = false := (hf4 _ _ (by first | omega | go_size)).trans (by first | (with_reducible assumption) | (go_simp; done) | (simp [*]; done))
      have hl4_1_1 : W4.cell? ⟨w.heap.size + 1, 1, none⟩ = some (num n) := (hc4 _ _ (by first | omega | go_size)).trans (by first | (with_reducible assumption) | go_cell)
      have hz4_1_1 : W4.frozen? ⟨w.heap.size + 1, 1, none⟩ = false := (hf4 _ _ (by first | omega | go_size)).trans (by first | (with_reducible assumption) | (go_simp; done) | (simp [*]; done))
      have hl4_1_2 : W4.cell? ⟨w.heap.size + 1, 2, none⟩ = some (u64 d) := (hc4 _ _ (by first | omega | go_size)).trans (by first | (with_reducible assumption) | go_cell)
      have hz4_1_2 : W4.frozen? ⟨w.heap.size + 1, 2, none⟩ = false := (hf4 _ _ (by first | omega | go_size)).trans (by first | (with_reducible assumption) | (go_simp; done) | (simp [*]; done))
      have hl4_1_3 : W4.cell? ⟨w.heap.size + 1, 3, none⟩ = some (u64 v) := (hc4 _ _ (by first | omega | go_size)).trans (by first | (with_reducible assumption) | go_cell)
      have hz4_1_3 : W4.frozen? ⟨w.heap.size + 1, 3, none⟩ = false := (hf4 _ _ (by first | omega | go_size)).trans (by first | (with_reducible assumption) | (go_simp; done) | (simp [*]; done))
      have hl4_1_4 : W4.cell? ⟨w.heap.size + 1, 4, none⟩ = some (u64 0) := (hc4 _ _ (by first | omega | go_size)).trans (by first | (with_reducible assumption) | go_cell)
      have hz4_1_4 : W4.frozen? ⟨w.heap.size + 1, 4, none⟩ = false := (hf4 _ _ (by first | omega | go_size)).trans (by first | (with_reducible assumption) | (go_simp; done) | (simp [*]; done))
      have hk4_1 : w.heap.size + 1 < W4.heap.size := by omega
      clear hg4 hc4 hf4
      go_wp2_with fail
      refine Lib.bodyPost_at5 (B := w.heap.size) (w := w) (w.heap.size) (.bool false) (num 0) (u64 0) (u64 0) (u64 0) (.tuple #[ringV false 0 0 0 0, u64 0, num 2]) ?_ ?_ ?_ ?_ ?_ ?_ rfl ?_ (fun WG hWG => ⟨rfl, hWG⟩)
      · first | (with_reducible assumption) | go_cell | (go_simp; done) | (simp [*]; done)
      · first | (with_reducible assumption) | go_cell | (go_simp; done) | (simp [*]; done)
      · first | (with_reducible assumption) | go_cell | (go_simp; done) | (simp [*]; done)
      · first | (with_reducible assumption) | go_cell | (go_simp; done) | (simp [*]; done)
      · first | (with_reducible assumption) | go_cell | (go_simp; done) | (simp [*]; done)
      · go_grown
      · intro WG qr0 qr1 qr2 qr3 qr4
        simp [results, Try.results72, go_sem, qr0, qr1, qr2, qr3, qr4]
    by_cases l1 : n1 < d
    case pos =>
      obtain rfl : r = noPlace := by rw [← hr, if_pos (by unfold badPlace; rw [E1.out, decide_eq_true l1]; rfl)]
      clear hr
      refine (r_align_g n2 4 e 0 HN2.out p2_4 HA3.out _).mono ?_
      rintro eE W4 ⟨rfl, hg4⟩
      have hb4 : Below w.heap.size w W4 := (show Below w.heap.size w _ by go_grown).trans (hg4.mono (by first | omega | go_size))
      obtain ⟨hc4, hf4⟩ := bcell hg4
      have hs4 := hg4.size
      try simp only [World.size_alloc, World.size_setCell, World.size_drew] at hs4
      have hl4_0_0 : W4.cell? ⟨w.heap.size, 0, none⟩ = some (.bool false) := (hc4 _ _ (by first | omega | go_size)).trans (by first | (with_reducible assumption) | go_cell)
      have hz4_0_0 : W4.frozen? ⟨w.heap.size, 0, none⟩ = false := (hf4 _ _ (by first | omega | go_size)).trans (by first | (with_reducible assumption) | (go_simp; done) | (simp [*]; done))
      have hl4_0_1 : W4.cell? ⟨w.heap.size, 1, none⟩ = some (num 0) := (hc4 _ _ (by first | omega | go_size)).trans (by first | (with_reducible assumption) | go_cell)
      have hz4_0_1 : W4.frozen? ⟨w.heap.size, 1, none⟩ = false := (hf4 _ _ (by first | omega | go_size)).trans (by first | (with_reducible assumption) | (go_simp; done) | (simp [*]; done))
      have hl4_0_2 : W4.cell? ⟨w.heap.size, 2, none⟩ = some (u64 0) := (hc4 _ _ (by first | omega | go_size)).trans (by first | (with_reducible assumption) | go_cell)
      have hz4_0_2 : W4.frozen? ⟨w.heap.size, 2, none⟩ = false := (hf4 _ _ (by first | omega | go_size)).trans (by first | (with_reducible assumption) | (go_simp; done) | (simp [*]; done))
      have hl4_0_3 : W4.cell? ⟨w.heap.size, 3, none⟩ = some (u64 0) := (hc4 _ _ (by first | omega | go_size)).trans (by first | (with_reducible assumption) | go_cell)
      have hz4_0_3 : W4.frozen? ⟨w.heap.size, 3, none⟩ = false := (hf4 _ _ (by first | omega | go_size)).trans (by first | (with_reducible assumption) | (go_simp; done) | (simp [*]; done))
      have hl4_0_4 : W4.cell? ⟨w.heap.size, 4, none⟩ = some (u64 0) := (hc4 _ _ (by first | omega | go_size)).trans (by first | (with_reducible assumption) | go_cell)
      have hz4_0_4 : W4.frozen? ⟨w.heap.size, 4, none⟩ = false := (hf4 _ _ (by first | omega | go_size)).trans (by first | (with_reducible assumption) | (go_simp; done) | (simp [*]; done))
      have hk4_0 : w.heap.size < W4.heap.size := by omega
      have hl4_1_0 : W4.cell? ⟨w.heap.size + 1, 0, none⟩ = some (.bool false) := (hc4 _ _ (by first | omega | go_size)).trans (by first | (with_reducible assumption) | go_cell)
      have hz4_1_0 : W4.frozen? ⟨w.heap.size + 1, 0, none⟩ = false := (hf4 _ _ (by first | omega | go_size)).trans (by first | (with_reducible assumption) | (go_simp; done) | (simp [*]; done))
      have hl4_1_1 : W4.cell? ⟨w.heap.size + 1, 1, none⟩ = some (num n) := (hc4 _ _ (by first | omega | go_size)).trans (by first | (with_reducible assumption) | go_cell)
      have hz4_1_1 : W4.frozen? ⟨w.heap.size + 1, 1, none⟩ = false := (hf4 _ _ (by first | omega | go_size)).trans (by first | (with_reducible assumption) | (go_simp; done) | (simp [*]; done))
      have hl4_1_2 : W4.cell? ⟨w.heap.size + 1, 2, none⟩ = some (u64 d) := (hc4 _ _ (by first | omega | go_size)).trans (by first | (with_reducible assumption) | go_cell)
      have hz4_1_2 : W4.frozen? ⟨w.heap.size + 1, 2, none⟩ = false := (hf4 _ _ (by first | omega | go_size)).trans (by first | (with_reducible assumption) | (go_simp; done) | (simp [*]; done))
      have hl4_1_3 : W4.cell? ⟨w.heap.size + 1, 3, none⟩ = some (u64 v) := (hc4 _ _ (by first | omega | go_size)).trans (by first | (with_reducible assumption) | go_cell)
      have hz4_1_3 : W4.frozen? ⟨w.heap.size + 1, 3, none⟩ = false := (hf4 _ _ (by first | omega | go_size)).trans (by first | (with_reducible assumption) | (go_simp; done) | (simp [*]; done))
      have hl4_1_4 : W4.cell? ⟨w.heap.size + 1, 4, none⟩ = some (u64 0) := (hc4 _ _ (by first | omega | go_size)).trans (by first | (with_reducible assumption) | go_cell)
      have hz4_1_4 : W4.frozen? ⟨w.heap.size + 1, 4, none⟩ = false := (hf4 _ _ (by first | omega | go_size)).trans (by first | (with_reducible assumption) | (go_simp; done) | (simp [*]; done))
      have hk4_1 : w.heap.size + 1 < W4.heap.size := by omega
      clear hg4 hc4 hf4
      go_wp2_with fail
      refine Lib.bodyPost_at5 (B := w.heap.size) (w := w) (w.heap.size) (.bool false) (num 0) (u64 0) (u64 0) (u64 0) (.tuple #[ringV false 0 0 0 0, u64 0, num 2]) ?_ ?_ ?_ ?_ ?_ ?_ rfl ?_ (fun WG hWG => ⟨rfl, hWG⟩)
      · first | (with_reducible assumption) | go_cell | (go_simp; done) | (simp [*]; done)
      · first | (with_reducible assumption) | go_cell | (go_simp; done) | (simp [*]; done)
      · first | (with_reducible assumption) | go_cell | (go_simp; done) | (simp [*]; done)
      · first | (with_reducible assumption) | go_cell | (go_simp; done) | (simp [*]; done)
      · first | (with_reducible assumption) | go_cell | (go_simp; done) | (simp [*]; done)
      · go_grown
      · intro WG qr0 qr1 qr2 qr3 qr4
        simp [results, Try.results72, go_sem, qr0, qr1, qr2, qr3, qr4]
    by_cases l2 : n2 < v
    case pos =>
      obtain rfl : r = noPlace := by rw [← hr, if_pos (by unfold badPlace; rw [E1.out, E2.out, decide_eq_false l1, decide_eq_true l2]; rfl)]
      clear hr
      refine (r_align_g n2 4 e 0 HN2.out p2_4 HA3.out _).mono ?_
      rintro eE W4 ⟨rfl, hg4⟩
      have hb4 : Below w.heap.size w W4 := (show Below w.heap.size w _ by go_grown).trans (hg4.mono (by first | omega | go_size))
      obtain ⟨hc4, hf4⟩ := bcell hg4
      have hs4 := hg4.size
      try simp only [World.size_alloc, World.size_setCell, World.size_drew] at hs4
      have hl4_0_0 : W4.cell? ⟨w.heap.size, 0, none⟩ = some (.bool false) := (hc4 _ _ (by first | omega | go_size)).trans (by first | (with_reducible assumption) | go_cell)
      have hz4_0_0 : W4.frozen? ⟨w.heap.size, 0, none⟩ = false := (hf4 _ _ (by first | omega | go_size)).trans (by first | (with_reducible assumption) | (go_simp; done) | (simp [*]; done))
      have hl4_0_1 : W4.cell? ⟨w.heap.size, 1, none⟩ = some (num 0) := (hc4 _ _ (by first | omega | go_size)).trans (by first | (with_reducible assumption) | go_cell)
      have hz4_0_1 : W4.frozen? ⟨w.heap.size, 1, none⟩ = false := (hf4 _ _ (by first | omega | go_size)).trans (by first | (with_reducible assumption) | (go_simp; done) | (simp [*]; done))
      have hl4_0_2 : W4.cell? ⟨w.heap.size, 2, none⟩ = some (u64 0) := (hc4 _ _ (by first | omega | go_size)).trans (by first | (with_reducible assumption) | go_cell)
      have hz4_0_2 : W4.frozen? ⟨w.heap.size, 2, none⟩ = false := (hf4 _ _ (by first | omega | go_size)).trans (by first | (with_reducible assumption) | (go_simp; done) | (simp [*]; done))
      have hl4_0_3 : W4.cell? ⟨w.heap.size, 3, none⟩ = some (u64 0) := (hc4 _ _ (by first | omega | go_size)).trans (by first | (with_reducible assumption) | go_cell)
      have hz4_0_3 : W4.frozen? ⟨w.heap.size, 3, none⟩ = false := (hf4 _ _ (by first | omega | go_size)).trans (by first | (with_reducible assumption) | (go_simp; done) | (simp [*]; done))
      have hl4_0_4 : W4.cell? ⟨w.heap.size, 4, none⟩ = some (u64 0) := (hc4 _ _ (by first | omega | go_size)).trans (by first | (with_reducible assumption) | go_cell)
      have hz4_0_4 : W4.frozen? ⟨w.heap.size, 4, none⟩ = false := (hf4 _ _ (by first | omega | go_size)).trans (by first | (with_reducible assumption) | (go_simp; done) | (simp [*]; done))
      have hk4_0 : w.heap.size < W4.heap.size := by omega
      have hl4_1_0 : W4.cell? ⟨w.heap.size + 1, 0, none⟩ = some (.bool false) := (hc4 _ _ (by first | omega | go_size)).trans (by first | (with_reducible assumption) | go_cell)
      have hz4_1_0 : W4.frozen? ⟨w.heap.size + 1, 0, none⟩ = false := (hf4 _ _ (by first | omega | go_size)).trans (by first | (with_reducible assumption) | (go_simp; done) | (simp [*]; done))
      have hl4_1_1 : W4.cell? ⟨w.heap.size + 1, 1, none⟩ = some (num n) := (hc4 _ _ (by first | omega | go_size)).trans (by first | (with_reducible assumption) | go_cell)
      have hz4_1_1 : W4.frozen? ⟨w.heap.size + 1, 1, none⟩ = false := (hf4 _ _ (by first | omega | go_size)).trans (by first | (with_reducible assumption) | (go_simp; done) | (simp [*]; done))
      have hl4_1_2 : W4.cell? ⟨w.heap.size + 1, 2, none⟩ = some (u64 d) := (hc4 _ _ (by first | omega | go_size)).trans (by first | (with_reducible assumption) | go_cell)
      have hz4_1_2 : W4.frozen? ⟨w.heap.size + 1, 2, none⟩ = false := (hf4 _ _ (by first | omega | go_size)).trans (by first | (with_reducible assumption) | (go_simp; done) | (simp [*]; done))
      have hl4_1_3 : W4.cell? ⟨w.heap.size + 1, 3, none⟩ = some (u64 v) := (hc4 _ _ (by first | omega | go_size)).trans (by first | (with_reducible assumption) | go_cell)
      have hz4_1_3 : W4.frozen? ⟨w.heap.size + 1, 3, none⟩ = false := (hf4 _ _ (by first | omega | go_size)).trans (by first | (with_reducible assumption) | (go_simp; done) | (simp [*]; done))
      have hl4_1_4 : W4.cell? ⟨w.heap.size + 1, 4, none⟩ = some (u64 0) := (hc4 _ _ (by first | omega | go_size)).trans (by first | (with_reducible assumption) | go_cell)
      have hz4_1_4 : W4.frozen? ⟨w.heap.size + 1, 4, none⟩ = false := (hf4 _ _ (by first | omega | go_size)).trans (by first | (with_reducible assumption) | (go_simp; done) | (simp [*]; done))
      have hk4_1 : w.heap.size + 1 < W4.heap.size := by omega
      clear hg4 hc4 hf4
      go_wp2_with fail
      refine Lib.bodyPost_at5 (B := w.heap.size) (w := w) (w.heap.size) (.bool false) (num 0) (u64 0) (u64 0) (u64 0) (.tuple #[ringV false 0 0 0 0, u64 0, num 2]) ?_ ?_ ?_ ?_ ?_ ?_ rfl ?_ (fun WG hWG => ⟨rfl, hWG⟩)
      · first | (with_reducible assumption) | go_cell | (go_simp; done) | (simp [*]; done)
      · first | (with_reducible assumption) | go_cell | (go_simp; done) | (simp [*]; done)
      · first | (with_reducible assumption) | go_cell | (go_simp; done) | (simp [*]; done)
      · first | (with_reducible assumption) | go_cell | (go_simp; done) | (simp [*]; done)
      · first | (with_reducible assumption) | go_cell | (go_simp; done) | (simp [*]; done)
      · go_grown
      · intro WG qr0 qr1 qr2 qr3 qr4
        simp [results, Try.results72, go_sem, qr0, qr1, qr2, qr3, qr4]
    by_cases l3 : s3 < e
    case pos =>
      obtain rfl : r = noPlace := by rw [← hr, if_pos (by unfold badPlace; rw [E1.out, E2.out, E3.out, decide_eq_false l1, decide_eq_false l2, decide_eq_true l3]; rfl)]
      clear hr
      refine (r_align_g n2 4 e 0 HN2.out p2_4 HA3.out _).mono ?_
      rintro eE W4 ⟨rfl, hg4⟩
      have hb4 : Below w.heap.size w W4 := (show Below w.heap.size w _ by go_grown).trans (hg4.mono (by first | omega | go_size))
      obtain ⟨hc4, hf4⟩ := bcell hg4
      have hs4 := hg4.size
      try simp only [World.size_alloc, World.size_setCell, World.size_drew] at hs4
      have hl4_0_0 : W4.cell? ⟨w.heap.size, 0, none⟩ = some (.bool false) := (hc4 _ _ (by first | omega | go_size)).trans (by first | (with_reducible assumption) | go_cell)
      have hz4_0_0 : W4.frozen? ⟨w.heap.size, 0, none⟩ = false := (hf4 _ _ (by first | omega | go_size)).trans (by first | (with_reducible assumption) | (go_simp; done) | (simp [*]; done))
      have hl4_0_1 : W4.cell? ⟨w.heap.size, 1, none⟩ = some (num 0) := (hc4 _ _ (by first | omega | go_size)).trans (by first | (with_reducible assumption) | go_cell)
      have hz4_0_1 : W4.frozen? ⟨w.heap.size, 1, none⟩ = false := (hf4 _ _ (by first | omega | go_size)).trans (by first | (with_reducible assumption) | (go_simp; done) | (simp [*]; done))
      have hl4_0_2 : W4.cell? ⟨w.heap.size, 2, none⟩ = some (u64 0) := (hc4 _ _ (by first | omega | go_size)).trans (by first | (with_reducible assumption) | go_cell)
      have hz4_0_2 : W4.frozen? ⟨w.heap.size, 2, none⟩ = false := (hf4 _ _ (by first | omega | go_size)).trans (by first | (with_reducible assumption) | (go_simp; done) | (simp [*]; done))
      have hl4_0_3 : W4.cell? ⟨w.heap.size, 3, none⟩ = some (u64 0) := (hc4 _ _ (by first | omega | go_size)).trans (by first | (with_reducible assumption) | go_cell)
      have hz4_0_3 : W4.frozen? ⟨w.heap.size, 3, none⟩ = false := (hf4 _ _ (by first | omega | go_size)).trans (by first | (with_reducible assumption) | (go_simp; done) | (simp [*]; done))
      have hl4_0_4 : W4.cell? ⟨w.heap.size, 4, none⟩ = some (u64 0) := (hc4 _ _ (by first | omega | go_size)).trans (by first | (with_reducible assumption) | go_cell)
      have hz4_0_4 : W4.frozen? ⟨w.heap.size, 4, none⟩ = false := (hf4 _ _ (by first | omega | go_size)).trans (by first | (with_reducible assumption) | (go_simp; done) | (simp [*]; done))
      have hk4_0 : w.heap.size < W4.heap.size := by omega
      have hl4_1_0 : W4.cell? ⟨w.heap.size + 1, 0, none⟩ = some (.bool false) := (hc4 _ _ (by first | omega | go_size)).trans (by first | (with_reducible assumption) | go_cell)
      have hz4_1_0 : W4.frozen? ⟨w.heap.size + 1, 0, none⟩ = false := (hf4 _ _ (by first | omega | go_size)).trans (by first | (with_reducible assumption) | (go_simp; done) | (simp [*]; done))
      have hl4_1_1 : W4.cell? ⟨w.heap.size + 1, 1, none⟩ = some (num n) := (hc4 _ _ (by first | omega | go_size)).trans (by first | (with_reducible assumption) | go_cell)
      have hz4_1_1 : W4.frozen? ⟨w.heap.size + 1, 1, none⟩ = false := (hf4 _ _ (by first | omega | go_size)).trans (by first | (with_reducible assumption) | (go_simp; done) | (simp [*]; done))
      have hl4_1_2 : W4.cell? ⟨w.heap.size + 1, 2, none⟩ = some (u64 d) := (hc4 _ _ (by first | omega | go_size)).trans (by first | (with_reducible assumption) | go_cell)
      have hz4_1_2 : W4.frozen? ⟨w.heap.size + 1, 2, none⟩ = false := (hf4 _ _ (by first | omega | go_size)).trans (by first | (with_reducible assumption) | (go_simp; done) | (simp [*]; done))
      have hl4_1_3 : W4.cell? ⟨w.heap.size + 1, 3, none⟩ = some (u64 v) := (hc4 _ _ (by first | omega | go_size)).trans (by first | (with_reducible assumption) | go_cell)
      have hz4_1_3 : W4.frozen? ⟨w.heap.size + 1, 3, none⟩ = false := (hf4 _ _ (by first | omega | go_size)).trans (by first | (with_reducible assumption) | (go_simp; done) | (simp [*]; done))
      have hl4_1_4 : W4.cell? ⟨w.heap.size + 1, 4, none⟩ = some (u64 0) := (hc4 _ _ (by first | omega | go_size)).trans (by first | (with_reducible assumption) | go_cell)
      have hz4_1_4 : W4.frozen? ⟨w.heap.size + 1, 4, none⟩ = false := (hf4 _ _ (by first | omega | go_size)).trans (by first | (with_reducible assumption) | (go_simp; done) | (simp [*]; done))
      have hk4_1 : w.heap.size + 1 < W4.heap.size := by omega
      clear hg4 hc4 hf4
      go_wp2_with fail
      refine Lib.bodyPost_at5 (B := w.heap.size) (w := w) (w.heap.size) (.bool false) (num 0) (u64 0) (u64 0) (u64 0) (.tuple #[ringV false 0 0 0 0, u64 0, num 2]) ?_ ?_ ?_ ?_ ?_ ?_ rfl ?_ (fun WG hWG => ⟨rfl, hWG⟩)
      · first | (with_reducible assumption) | go_cell | (go_simp; done) | (simp [*]; done)
      · first | (with_reducible assumption) | go_cell | (go_simp; done) | (simp [*]; done)
      · first | (with_reducible assumption) | go_cell | (go_simp; done) | (simp [*]; done)
      · first | (with_reducible assumption) | go_cell | (go_simp; done) | (simp [*]; done)
      · first | (with_reducible assumption) | go_cell | (go_simp; done) | (simp [*]; done)
      · go_grown
      · intro WG qr0 qr1 qr2 qr3 qr4
        simp [results, Try.results72, go_sem, qr0, qr1, qr2, qr3, qr4]
    cases hc : checkB false n d v e with
    | false =>
      obtain rfl : r = noPlace := by rw [← hr, if_pos (by unfold badPlace; rw [hc, E1.out, E2.out, E3.out, decide_eq_false l1, decide_eq_false l2, decide_eq_false l3]; rfl)]
      have HC := Lib.hid (show (if checkB false n d v e = true then (0 : Int) else 2) = 2 from by rw [hc]; rfl)
      clear hr hc
      refine (r_align_g n2 4 e 0 HN2.out p2_4 HA3.out _).mono ?_
      rintro eE W4 ⟨rfl, hg4⟩
      have hb4 : Below w.heap.size w W4 := (show Below w.heap.size w _ by go_grown).trans (hg4.mono (by first | omega | go_size))
      obtain ⟨hc4, hf4⟩ := bcell hg4
      have hs4 := hg4.size
      try simp only [World.size_alloc, World.size_setCell, World.size_drew] at hs4
      have hl4_0_0 : W4.cell? ⟨w.heap.size, 0, none⟩ = some (.bool false) := (hc4 _ _ (by first | omega | go_size)).trans (by first | (with_reducible assumption) | go_cell)
      have hz4_0_0 : W4.frozen? ⟨w.heap.size, 0, none⟩ = false := (hf4 _ _ (by first | omega | go_size)).trans (by first | (with_reducible assumption) | (go_simp; done) | (simp [*]; done))
      have hl4_0_1 : W4.cell? ⟨w.heap.size, 1, none⟩ = some (num 0) := (hc4 _ _ (by first | omega | go_size)).trans (by first | (with_reducible assumption) | go_cell)
      have hz4_0_1 : W4.frozen? ⟨w.heap.size, 1, none⟩ = false := (hf4 _ _ (by first | omega | go_size)).trans (by first | (with_reducible assumption) | (go_simp; done) | (simp [*]; done))
      have hl4_0_2 : W4.cell? ⟨w.heap.size, 2, none⟩ = some (u64 0) := (hc4 _ _ (by first | omega | go_size)).trans (by first | (with_reducible assumption) | go_cell)
      have hz4_0_2 : W4.frozen? ⟨w.heap.size, 2, none⟩ = false := (hf4 _ _ (by first | omega | go_size)).trans (by first | (with_reducible assumption) | (go_simp; done) | (simp [*]; done))
      have hl4_0_3 : W4.cell? ⟨w.heap.size, 3, none⟩ = some (u64 0) := (hc4 _ _ (by first | omega | go_size)).trans (by first | (with_reducible assumption) | go_cell)
      have hz4_0_3 : W4.frozen? ⟨w.heap.size, 3, none⟩ = false := (hf4 _ _ (by first | omega | go_size)).trans (by first | (with_reducible assumption) | (go_simp; done) | (simp [*]; done))
      have hl4_0_4 : W4.cell? ⟨w.heap.size, 4, none⟩ = some (u64 0) := (hc4 _ _ (by first | omega | go_size)).trans (by first | (with_reducible assumption) | go_cell)
      have hz4_0_4 : W4.frozen? ⟨w.heap.size, 4, none⟩ = false := (hf4 _ _ (by first | omega | go_size)).trans (by first | (with_reducible assumption) | (go_simp; done) | (simp [*]; done))
      have hk4_0 : w.heap.size < W4.heap.size := by omega
      have hl4_1_0 : W4.cell? ⟨w.heap.size + 1, 0, none⟩ = some (.bool false) := (hc4 _ _ (by first | omega | go_size)).trans (by first | (with_reducible assumption) | go_cell)
      have hz4_1_0 : W4.frozen? ⟨w.heap.size + 1, 0, none⟩ = false := (hf4 _ _ (by first | omega | go_size)).trans (by first | (with_reducible assumption) | (go_simp; done) | (simp [*]; done))
      have hl4_1_1 : W4.cell? ⟨w.heap.size + 1, 1, none⟩ = some (num n) := (hc4 _ _ (by first | omega | go_size)).trans (by first | (with_reducible assumption) | go_cell)
      have hz4_1_1 : W4.frozen? ⟨w.heap.size + 1, 1, none⟩ = false := (hf4 _ _ (by first | omega | go_size)).trans (by first | (with_reducible assumption) | (go_simp; done) | (simp [*]; done))
      have hl4_1_2 : W4.cell? ⟨w.heap.size + 1, 2, none⟩ = some (u64 d) := (hc4 _ _ (by first | omega | go_size)).trans (by first | (with_reducible assumption) | go_cell)
      have hz4_1_2 : W4.frozen? ⟨w.heap.size + 1, 2, none⟩ = false := (hf4 _ _ (by first | omega | go_size)).trans (by first | (with_reducible assumption) | (go_simp; done) | (simp [*]; done))
      have hl4_1_3 : W4.cell? ⟨w.heap.size + 1, 3, none⟩ = some (u64 v) := (hc4 _ _ (by first | omega | go_size)).trans (by first | (with_reducible assumption) | go_cell)
      have hz4_1_3 : W4.frozen? ⟨w.heap.size + 1, 3, none⟩ = false := (hf4 _ _ (by first | omega | go_size)).trans (by first | (with_reducible assumption) | (go_simp; done) | (simp [*]; done))
      have hl4_1_4 : W4.cell? ⟨w.heap.size + 1, 4, none⟩ = some (u64 0) := (hc4 _ _ (by first | omega | go_size)).trans (by first | (with_reducible assumption) | go_cell)
      have hz4_1_4 : W4.frozen? ⟨w.heap.size + 1, 4, none⟩ = false := (hf4 _ _ (by first | omega | go_size)).trans (by first | (with_reducible assumption) | (go_simp; done) | (simp [*]; done))
      have hk4_1 : w.heap.size + 1 < W4.heap.size := by omega
      clear hg4 hc4 hf4
      go_wp2_with fail
      refine (r_check_is false n d v e 2 HD.out HV.out HE.out HC.out _).mono ?_
      rintro eE W5 ⟨rfl, hg5⟩
      have hb5 : Below w.heap.size w W5 := (show Below w.heap.size w _ by go_grown).trans (hg5.mono (by first | omega | go_size))
      obtain ⟨hc5, hf5⟩ := bcell hg5
      have hs5 := hg5.size
      try simp only [World.size_alloc, World.size_setCell, World.size_drew] at hs5
      have hl5_0_0 : W5.cell? ⟨w.heap.size, 0, none⟩ = some (.bool false) := (hc5 _ _ (by first | omega | go_size)).trans (by first | (with_reducible assumption) | go_cell)
      have hz5_0_0 : W5.frozen? ⟨w.heap.size, 0, none⟩ = false := (hf5 _ _ (by first | omega | go_size)).trans (by first | (with_reducible assumption) | (go_simp; done) | (simp [*]; done))
      have hl5_0_1 : W5.cell? ⟨w.heap.size, 1, none⟩ = some (num 0) := (hc5 _ _ (by first | omega | go_size)).trans (by first | (with_reducible assumption) | go_cell)
      have hz5_0_1 : W5.frozen? ⟨w.heap.size, 1, none⟩ = false := (hf5 _ _ (by first | omega | go_size)).trans (by first | (with_reducible assumption) | (go_simp; done) | (simp [*]; done))
      have hl5_0_2 : W5.cell? ⟨w.heap.size, 2, none⟩ = some (u64 0) := (hc5 _ _ (by first | omega | go_size)).trans (by first | (with_reducible assumption) | go_cell)
      have hz5_0_2 : W5.frozen? ⟨w.heap.size, 2, none⟩ = false := (hf5 _ _ (by first | omega | go_size)).trans (by first | (with_reducible assumption) | (go_simp; done) | (simp [*]; done))
      have hl5_0_3 : W5.cell? ⟨w.heap.size, 3, none⟩ = some (u64 0) := (hc5 _ _ (by first | omega | go_size)).trans (by first | (with_reducible assumption) | go_cell)
      have hz5_0_3 : W5.frozen? ⟨w.heap.size, 3, none⟩ = false := (hf5 _ _ (by first | omega | go_size)).trans (by first | (with_reducible assumption) | (go_simp; done) | (simp [*]; done))
      have hl5_0_4 : W5.cell? ⟨w.heap.size, 4, none⟩ = some (u64 0) := (hc5 _ _ (by first | omega | go_size)).trans (by first | (with_reducible assumption) | go_cell)
      have hz5_0_4 : W5.frozen? ⟨w.heap.size, 4, none⟩ = false := (hf5 _ _ (by first | omega | go_size)).trans (by first | (with_reducible assumption) | (go_simp; done) | (simp [*]; done))
      have hk5_0 : w.heap.size < W5.heap.size := by omega
      have hl5_1_0 : W5.cell? ⟨w.heap.size + 1, 0, none⟩ = some (.bool false) := (hc5 _ _ (by first | omega | go_size)).trans (by first | (with_reducible assumption) | go_cell)
      have hz5_1_0 : W5.frozen? ⟨w.heap.size + 1, 0, none⟩ = false := (hf5 _ _ (by first | omega | go_size)).trans (by first | (with_reducible assumption) | (go_simp; done) | (simp [*]; done))
      have hl5_1_1 : W5.cell? ⟨w.heap.size + 1, 1, none⟩ = some (num n) := (hc5 _ _ (by first | omega | go_size)).trans (by first | (with_reducible assumption) | go_cell)
      have hz5_1_1 : W5.frozen? ⟨w.heap.size + 1, 1, none⟩ = false := (hf5 _ _ (by first | omega | go_size)).trans (by first | (with_reducible assumption) | (go_simp; done) | (simp [*]; done))
      have hl5_1_2 : W5.cell? ⟨w.heap.size + 1, 2, none⟩ = some (u64 d) := (hc5 _ _ (by first | omega | go_size)).trans (by first | (with_reducible assumption) | go_cell)
      have hz5_1_2 : W5.frozen? ⟨w.heap.size + 1, 2, none⟩ = false := (hf5 _ _ (by first | omega | go_size)).trans (by first | (with_reducible assumption) | (go_simp; done) | (simp [*]; done))
      have hl5_1_3 : W5.cell? ⟨w.heap.size + 1, 3, none⟩ = some (u64 v) := (hc5 _ _ (by first | omega | go_size)).trans (by first | (with_reducible assumption) | go_cell)
      have hz5_1_3 : W5.frozen? ⟨w.heap.size + 1, 3, none⟩ = false := (hf5 _ _ (by first | omega | go_size)).trans (by first | (with_reducible assumption) | (go_simp; done) | (simp [*]; done))
      have hl5_1_4 : W5.cell? ⟨w.heap.size + 1, 4, none⟩ = some (u64 e) := (hc5 _ _ (by first | omega | go_size)).trans (by first | (with_reducible assumption) | go_cell)
      have hz5_1_4 : W5.frozen? ⟨w.heap.size + 1, 4, none⟩ = false := (hf5 _ _ (by first | omega | go_size)).trans (by first | (with_reducible assumption) | (go_simp; done) | (simp [*]; done))
      have hk5_1 : w.heap.size + 1 < W5.heap.size := by omega
      clear hg5 hc5 hf5
      go_wp2_with fail
      refine Lib.bodyPost_at5 (B := w.heap.size) (w := w) (w.heap.size) (.bool false) (num 0) (u64 0) (u64 0) (u64 0) (.tuple #[ringV false 0 0 0 0, u64 0, num 2]) ?_ ?_ ?_ ?_ ?_ ?_ rfl ?_ (fun WG hWG => ⟨rfl, hWG⟩)
      · first | (with_reducible assumption) | go_cell | (go_simp; done) | (simp [*]; done)
      · first | (with_reducible assumption) | go_cell | (go_simp; done) | (simp [*]; done)
      · first | (with_reducible assumption) | go_cell | (go_simp; done) | (simp [*]; done)
      · first | (with_reducible assumption) | go_cell | (go_simp; done) | (simp [*]; done)
      · first | (with_reducible assumption) | go_cell | (go_simp; done) | (simp [*]; done)
      · go_grown
      · intro WG qr0 qr1 qr2 qr3 qr4
        simp [results, Try.results72, go_sem, qr0, qr1, qr2, qr3, qr4]
    | true =>
    obtain rfl : r = (false, n, d, v, e, n5, 0) := by rw [← hr, if_neg (by unfold badPlace; rw [hc, E1.out, E2.out, E3.out, decide_eq_false l1, decide_eq_false l2, decide_eq_false l3]; decide), E4.out, E5.out]
    have HC := Lib.hid (show (if checkB false n d v e = true then (0 : Int) else 2) = 0 from by rw [hc]; rfl)
    clear hr hc
    refine (r_align_g n2 4 e 0 HN2.out p2_4 HA3.out _).mono ?_
    rintro eE W4 ⟨rfl, hg4⟩
    have hb4 : Below w.heap.size w W4 := (show Below w.heap.size w _ by go_grown).trans (hg4.mono (by first | omega | go_size))
    obtain ⟨hc4, hf4⟩ := bcell hg4
    have hs4 := hg4.size
    try simp only [World.size_alloc, World.size_setCell, World.size_drew] at hs4
    have hl4_0_0 : W4.cell? ⟨w.heap.size, 0, none⟩ = some (.bool false) := (hc4 _ _ (by first | omega | go_size)).trans (by first | (with_reducible assumption) | go_cell)
    have hz4_0_0 : W4.frozen? ⟨w.heap.size, 0, none⟩ = false := (hf4 _ _ (by first | omega | go_size)).trans (by first | (with_reducible assumption) | (go_simp; done) | (simp [*]; done))
    have hl4_0_1 : W4.cell? ⟨w.heap.size, 1, none⟩ = some (num 0) := (hc4 _ _ (by first | omega | go_size)).trans (by first | (with_reducible assumption) | go_cell)
    have hz4_0_1 : W4.frozen? ⟨w.heap.size, 1, none⟩ = false := (hf4 _ _ (by first | omega | go_size)).trans (by first | (with_reducible assumption) | (go_simp; done) | (simp [*]; done))
    have hl4_0_2 : W4.cell? ⟨w.heap.size, 2, none⟩ = some (u64 0) := (hc4 _ _ (by first | omega | go_size)).trans (by first | (with_reducible assumption) | go_cell)
    have hz4_0_2 : W4.frozen? ⟨w.heap.size, 2, none⟩ = false := (hf4 _ _ (by first | omega | go_size)).trans (by first | (with_reducible assumption) | (go_simp; done) | (simp [*]; done))
    have hl4_0_3 : W4.cell? ⟨w.heap.size, 3, none⟩ = some (u64 0) := (hc4 _ _ (by first | omega | go_size)).trans (by first | (with_reducible assumption) | go_cell)
    have hz4_0_3 : W4.frozen? ⟨w.heap.size, 3, none⟩ = false := (hf4 _ _ (by first | omega | go_size)).trans (by first | (with_reducible assumption) | (go_simp; done) | (simp [*]; done))
    have hl4_0_4 : W4.cell? ⟨w.heap.size, 4, none⟩ = some (u64 0) := (hc4 _ _ (by first | omega | go_size)).trans (by first | (with_reducible assumption) | go_cell)
    have hz4_0_4 : W4.frozen? ⟨w.heap.size, 4, none⟩ = false := (hf4 _ _ (by first | omega | go_size)).trans (by first | (with_reducible assumption) | (go_simp; done) | (simp [*]; done))
    have hk4_0 : w.heap.size < W4.heap.size := by omega
    have hl4_1_0 : W4.cell? ⟨w.heap.size + 1, 0, none⟩ = some (.bool false) := (hc4 _ _ (by first | omega | go_size)).trans (by first | (with_reducible assumption) | go_cell)
    have hz4_1_0 : W4.frozen? ⟨w.heap.size + 1, 0, none⟩ = false := (hf4 _ _ (by first | omega | go_size)).trans (by first | (with_reducible assumption) | (go_simp; done) | (simp [*]; done))
    have hl4_1_1 : W4.cell? ⟨w.heap.size + 1, 1, none⟩ = some (num n) := (hc4 _ _ (by first | omega | go_size)).trans (by first | (with_reducible assumption) | go_cell)
    have hz4_1_1 : W4.frozen? ⟨w.heap.size + 1, 1, none⟩ = false := (hf4 _ _ (by first | omega | go_size)).trans (by first | (with_reducible assumption) | (go_simp; done) | (simp [*]; done))
    have hl4_1_2 : W4.cell? ⟨w.heap.size + 1, 2, none⟩ = some (u64 d) := (hc4 _ _ (by first | omega | go_size)).trans (by first | (with_reducible assumption) | go_cell)
    have hz4_1_2 : W4.frozen? ⟨w.heap.size + 1, 2, none⟩ = false := (hf4 _ _ (by first | omega | go_size)).trans (by first | (with_reducible assumption) | (go_simp; done) | (simp [*]; done))
    have hl4_1_3 : W4.cell? ⟨w.heap.size + 1, 3, none⟩ = some (u64 v) := (hc4 _ _ (by first | omega | go_size)).trans (by first | (with_reducible assumption) | go_cell)
    have hz4_1_3 : W4.frozen? ⟨w.heap.size + 1, 3, none⟩ = false := (hf4 _ _ (by first | omega | go_size)).trans (by first | (with_reducible assumption) | (go_simp; done) | (simp [*]; done))
    have hl4_1_4 : W4.cell? ⟨w.heap.size + 1, 4, none⟩ = some (u64 0) := (hc4 _ _ (by first | omega | go_size)).trans (by first | (with_reducible assumption) | go_cell)
    have hz4_1_4 : W4.frozen? ⟨w.heap.size + 1, 4, none⟩ = false := (hf4 _ _ (by first | omega | go_size)).trans (by first | (with_reducible assumption) | (go_simp; done) | (simp [*]; done))
    have hk4_1 : w.heap.size + 1 < W4.heap.size := by omega
    clear hg4 hc4 hf4
    go_wp2_with fail
    refine (r_check_is false n d v e 0 HD.out HV.out HE.out HC.out _).mono ?_
    rintro eE W5 ⟨rfl, hg5⟩
    have hb5 : Below w.heap.size w W5 := (show Below w.heap.size w _ by go_grown).trans (hg5.mono (by first | omega | go_size))
    obtain ⟨hc5, hf5⟩ := bcell hg5
    have hs5 := hg5.size
    try simp only [World.size_alloc, World.size_setCell, World.size_drew] at hs5
    have hl5_0_0 : W5.cell? ⟨w.heap.size, 0, none⟩ = some (.bool false) := (hc5 _ _ (by first | omega | go_size)).trans (by first | (with_reducible assumption) | go_cell)
    have hz5_0_0 : W5.frozen? ⟨w.heap.size, 0, none⟩ = false := (hf5 _ _ (by first | omega | go_size)).trans (by first | (with_reducible assumption) | (go_simp; done) | (simp [*]; done))
    have hl5_0_1 : W5.cell? ⟨w.heap.size, 1, none⟩ = some (num 0) := (hc5 _ _ (by first | omega | go_size)).trans (by first | (with_reducible assumption) | go_cell)
    have hz5_0_1 : W5.frozen? ⟨w.heap.size, 1, none⟩ = false := (hf5 _ _ (by first | omega | go_size)).trans (by first | (with_reducible assumption) | (go_simp; done) | (simp [*]; done))
    have hl5_0_2 : W5.cell? ⟨w.heap.size, 2, none⟩ = some (u64 0) := (hc5 _ _ (by first | omega | go_size)).trans (by first | (with_reducible assumption) | go_cell)
    have hz5_0_2 : W5.frozen? ⟨w.heap.size, 2, none⟩ = false := (hf5 _ _ (by first | omega | go_size)).trans (by first | (with_reducible assumption) | (go_simp; done) | (simp [*]; done))
    have hl5_0_3 : W5.cell? ⟨w.heap.size, 3, none⟩ = some (u64 0) := (hc5 _ _ (by first | omega | go_size)).trans (by first | (with_reducible assumption) | go_cell)
    have hz5_0_3 : W5.frozen? ⟨w.heap.size, 3, none⟩ = false := (hf5 _ _ (by first | omega | go_size)).trans (by first | (with_reducible assumption) | (go_simp; done) | (simp [*]; done))
    have hl5_0_4 : W5.cell? ⟨w.heap.size, 4, none⟩ = some (u64 0) := (hc5 _ _ (by first | omega | go_size)).trans (by first | (with_reducible assumption) | go_cell)
    have hz5_0_4 : W5.frozen? ⟨w.heap.size, 4, none⟩ = false := (hf5 _ _ (by first | omega | go_size)).trans (by first | (with_reducible assumption) | (go_simp; done) | (simp [*]; done))
    have hk5_0 : w.heap.size < W5.heap.size := by omega
    have hl5_1_0 : W5.cell? ⟨w.heap.size + 1, 0, none⟩ = some (.bool false) := (hc5 _ _ (by first | omega | go_size)).trans (by first | (with_reducible assumption) | go_cell)
    have hz5_1_0 : W5.frozen? ⟨w.heap.size + 1, 0, none⟩ = false := (hf5 _ _ (by first | omega | go_size)).trans (by first | (with_reducible assumption) | (go_simp; done) | (simp [*]; done))
    have hl5_1_1 : W5.cell? ⟨w.heap.size + 1, 1, none⟩ = some (num n) := (hc5 _ _ (by first | omega | go_size)).trans (by first | (with_reducible assumption) | go_cell)
    have hz5_1_1 : W5.frozen? ⟨w.heap.size + 1, 1, none⟩ = false := (hf5 _ _ (by first | omega | go_size)).trans (by first | (with_reducible assumption) | (go_simp; done) | (simp [*]; done))
    have hl5_1_2 : W5.cell? ⟨w.heap.size + 1, 2, none⟩ = some (u64 d) := (hc5 _ _ (by first | omega | go_size)).trans (by first | (with_reducible assumption) | go_cell)
    have hz5_1_2 : W5.frozen? ⟨w.heap.size + 1, 2, none⟩ = false := (hf5 _ _ (by first | omega | go_size)).trans (by first | (with_reducible assumption) | (go_simp; done) | (simp [*]; done))
    have hl5_1_3 : W5.cell? ⟨w.heap.size + 1, 3, none⟩ = some (u64 v) := (hc5 _ _ (by first | omega | go_size)).trans (by first | (with_reducible assumption) | go_cell)
    have hz5_1_3 : W5.frozen? ⟨w.heap.size + 1, 3, none⟩ = false := (hf5 _ _ (by first | omega | go_size)).trans (by first | (with_reducible assumption) | (go_simp; done) | (simp [*]; done))
    have hl5_1_4 : W5.cell? ⟨w.heap.size + 1, 4, none⟩ = some (u64 e) := (hc5 _ _ (by first | omega | go_size)).trans (by first | (with_reducible assumption) | go_cell)
    have hz5_1_4 : W5.frozen? ⟨w.heap.size + 1, 4, none⟩ = false := (hf5 _ _ (by first | omega | go_size)).trans (by first | (with_reducible assumption) | (go_simp; done) | (simp [*]; done))
    have hk5_1 : w.heap.size + 1 < W5.heap.size := by omega
    clear hg5 hc5 hf5
    go_wp2_with fail
    go_region
    go_wp2_with fail
    refine Lib.bodyPost_at5 (B := w.heap.size) (w := w) (w.heap.size) (.bool false) (num n) (u64 d) (u64 v) (u64 e) (.tuple #[ringV false n d v e, u64 n5, num 0]) ?_ ?_ ?_ ?_ ?_ ?_ rfl ?_ (fun WG hWG => ⟨rfl, hWG⟩)
    · first | (with_reducible assumption) | go_cell | (go_simp; done) | (simp [*]; done)
    · first | (with_reducible assumption) | go_cell | (go_simp; done) | (simp [*]; done)
    · first | (with_reducible assumption) | go_cell | (go_simp; done) | (simp [*]; done)
    · first | (with_reducible assumption) | go_cell | (go_simp; done) | (simp [*]; done)
    · first | (with_reducible assumption) | go_cell | (go_simp; done) | (simp [*]; done)
    · go_grown
    · intro WG qr0 qr1 qr2 qr3 qr4
      simp [results, Try.results72, go_sem, qr0, qr1, qr2, qr3, qr4]

end Go.Proofs.Ytkncaafjkoeijaa.Lay
