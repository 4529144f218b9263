
/- Free lists: Give. -/
import Derived.Test.YtkejcdephnkkgaaFrTake
namespace Go.Proofs.Ytkejcdephnkkgaa.FrGive
open Go.RowKit Rw Fe Fr FrRead FrAdd FrOpen FrBuild FrCalls FrTake Own
set_option linter.unusedVariables false
set_option linter.unusedSimpArgs false

def GiveP (w : World) (s : Int) (n : Nat) (l : List Int) (e : Ending) (w' : World) : Prop :=
  ∃ (C : Option Addr) (cc : Nat), e = .returned (.tuple #[frV s C n cc, num 0]) ∧ Sl w' w'.heap.size C n cc l ∧ New w.heap.size C n ∧ Below w.heap.size w w'
def NoG (w : World) (x : Int) (e : Ending) (w' : World) : Prop := e = .returned (.tuple #[frV 0 none 0 0, num x]) ∧ Below w.heap.size w w'

set_option maxRecDepth 100000 in
set_option maxHeartbeats 2000000 in
theorem give_out (s : Int) (A B : Option Addr) (n c m d : Nat) (l o : List Int) (w : World) (hs : Sl w w.heap.size A n c l) (ho : Sl w w.heap.size B m d o) (hk : Ok s l) (hin : inB s o = false) :
    Calls Try.prog 34 #[frV s A n c, .slice B m d] w (NoG w 2) := by
  have hb0 : Below w.heap.size w w := Below.refl _ _
  have HS := Lib.hid hs
  have HO := Lib.hid ho
  have HK := Lib.hid hk
  have HI := Lib.hid hin
  clear hs ho hk hin
  unfold NoG
  go_enter Try.func34, Try.ntmps34
  go_wp2_with fail
  refine (read_ok s A n c l _ ((HS.out.below (by go_grown)).more (by go_size)) HK.out).mono ?_
  rintro eE W1 ⟨b, q, rfl, hbb, hbits, hm1, hm2, hg1⟩
  clear hbits
  have hb1 : Below w.heap.size w W1 := (show Below w.heap.size w _ by go_grown).trans (hg1.mono (by first | omega | go_size))
  obtain ⟨hc1, hf1⟩ := bcell hg1
  have hs1 := hg1.size
  try simp only [World.size_alloc, World.size_setCell, World.size_drew] at hs1
  have hl1_0_0 : W1.cell? ⟨w.heap.size, 0, none⟩ = some (num s) := (hc1 _ _ (by first | omega | go_size)).trans (by first | (with_reducible assumption) | go_cell)
  have hz1_0_0 : W1.frozen? ⟨w.heap.size, 0, none⟩ = false := (hf1 _ _ (by first | omega | go_size)).trans (by first | (with_reducible assumption) | (go_simp; done) | (simp [*]; done))
  have hl1_0_1 : W1.cell? ⟨w.heap.size, 1, none⟩ = some (.slice A n c) := (hc1 _ _ (by first | omega | go_size)).trans (by first | (with_reducible assumption) | go_cell)
  have hz1_0_1 : W1.frozen? ⟨w.heap.size, 1, none⟩ = false := (hf1 _ _ (by first | omega | go_size)).trans (by first | (with_reducible assumption) | (go_simp; done) | (simp [*]; done))
  have hk1_0 : w.heap.size < W1.heap.size := by omega
  have hl1_1_0 : W1.cell? ⟨w.heap.size + 1, 0, none⟩ = some (num 0) := (hc1 _ _ (by first | omega | go_size)).trans (by first | (with_reducible assumption) | go_cell)
  have hz1_1_0 : W1.frozen? ⟨w.heap.size + 1, 0, none⟩ = false := (hf1 _ _ (by first | omega | go_size)).trans (by first | (with_reducible assumption) | (go_simp; done) | (simp [*]; done))
  have hl1_1_1 : W1.cell? ⟨w.heap.size + 1, 1, none⟩ = some (.slice none 0 0) := (hc1 _ _ (by first | omega | go_size)).trans (by first | (with_reducible assumption) | go_cell)
  have hz1_1_1 : W1.frozen? ⟨w.heap.size + 1, 1, none⟩ = false := (hf1 _ _ (by first | omega | go_size)).trans (by first | (with_reducible assumption) | (go_simp; done) | (simp [*]; done))
  have hk1_1 : w.heap.size + 1 < W1.heap.size := by omega
  clear hg1 hc1 hf1
  go_wp2_with fail
  refine (within_is s B m d o false HI.out _ ((HO.out.below (by go_grown)).more (by go_size))).mono ?_
  rintro eE W2 ⟨rfl, hg2⟩
  have hb2 : Below w.heap.size w W2 := (show Below w.heap.size w _ by go_grown).trans (hg2.mono (by first | omega | go_size))
  obtain ⟨hc2, hf2⟩ := bcell hg2
  have hs2 := hg2.size
  try simp only [World.size_alloc, World.size_setCell, World.size_drew] at hs2
  have hl2_0_0 : W2.cell? ⟨w.heap.size, 0, none⟩ = some (num s) := (hc2 _ _ (by first | omega | go_size)).trans (by first | (with_reducible assumption) | go_cell)
  have hz2_0_0 : W2.frozen? ⟨w.heap.size, 0, none⟩ = false := (hf2 _ _ (by first | omega | go_size)).trans (by first | (with_reducible assumption) | (go_simp; done) | (simp [*]; done))
  have hl2_0_1 : W2.cell? ⟨w.heap.size, 1, none⟩ = some (.slice A n c) := (hc2 _ _ (by first | omega | go_size)).trans (by first | (with_reducible assumption) | go_cell)
  have hz2_0_1 : W2.frozen? ⟨w.heap.size, 1, none⟩ = false := (hf2 _ _ (by first | omega | go_size)).trans (by first | (with_reducible assumption) | (go_simp; done) | (simp [*]; done))
  have hk2_0 : w.heap.size < W2.heap.size := by omega
  have hl2_1_0 : W2.cell? ⟨w.heap.size + 1, 0, none⟩ = some (num 0) := (hc2 _ _ (by first | omega | go_size)).trans (by first | (with_reducible assumption) | go_cell)
  have hz2_1_0 : W2.frozen? ⟨w.heap.size + 1, 0, none⟩ = false := (hf2 _ _ (by first | omega | go_size)).trans (by first | (with_reducible assumption) | (go_simp; done) | (simp [*]; done))
  have hl2_1_1 : W2.cell? ⟨w.heap.size + 1, 1, none⟩ = some (.slice none 0 0) := (hc2 _ _ (by first | omega | go_size)).trans (by first | (with_reducible assumption) | go_cell)
  have hz2_1_1 : W2.frozen? ⟨w.heap.size + 1, 1, none⟩ = false := (hf2 _ _ (by first | omega | go_size)).trans (by first | (with_reducible assumption) | (go_simp; done) | (simp [*]; done))
  have hk2_1 : w.heap.size + 1 < W2.heap.size := by omega
  clear hg2 hc2 hf2
  go_wp2_with fail
  refine Lib.bodyPost_at2 (B := w.heap.size) (w := w) (w.heap.size + 1) (num 0) (.slice none 0 0) (.tuple #[frV 0 none 0 0, num 2]) ?_ ?_ ?_ rfl ?_ (fun WG hWG => ⟨rfl, hWG⟩)
  · first | (with_reducible assumption) | go_cell | (go_simp; done) | (simp [*]; done)
  · first | (with_reducible assumption) | go_cell | (go_simp; done) | (simp [*]; done)
  · go_grown
  · intro WG qr0 qr1
    simp [results, Try.results34, go_sem, qr0, qr1]

set_option maxRecDepth 100000 in
set_option maxHeartbeats 2000000 in
theorem give_there (s : Int) (A B : Option Addr) (n c m d : Nat) (l o : List Int) (w : World) (hs : Sl w w.heap.size A n c l) (ho : Sl w w.heap.size B m d o) (hk : Ok s l) (hin : inB s o = true) (hd : ¬ (l ++ o).Nodup) :
    Calls Try.prog 34 #[frV s A n c, .slice B m d] w (NoG w 9) := by
  have hb0 : Below w.heap.size w w := Below.refl _ _
  have HS := Lib.hid hs
  have HO := Lib.hid ho
  have HK := Lib.hid hk
  have HI := Lib.hid hin
  have HD := Lib.hid hd
  clear hs ho hk hin hd
  unfold NoG
  go_enter Try.func34, Try.ntmps34
  go_wp2_with fail
  refine (read_ok s A n c l _ ((HS.out.below (by go_grown)).more (by go_size)) HK.out).mono ?_
  rintro eE W1 ⟨b, q, rfl, hbb, hbits, hm1, hm2, hg1⟩
  have HB := Lib.hid hbits
  have hlt := hbits.lt
  simp only [World.size_alloc] at hbb
  clear hbits
  have hb1 : Below w.heap.size w W1 := (show Below w.heap.size w _ by go_grown).trans (hg1.mono (by first | omega | go_size))
  obtain ⟨hc1, hf1⟩ := bcell hg1
  have hs1 := hg1.size
  try simp only [World.size_alloc, World.size_setCell, World.size_drew] at hs1
  have hl1_0_0 : W1.cell? ⟨w.heap.size, 0, none⟩ = some (num s) := (hc1 _ _ (by first | omega | go_size)).trans (by first | (with_reducible assumption) | go_cell)
  have hz1_0_0 : W1.frozen? ⟨w.heap.size, 0, none⟩ = false := (hf1 _ _ (by first | omega | go_size)).trans (by first | (with_reducible assumption) | (go_simp; done) | (simp [*]; done))
  have hl1_0_1 : W1.cell? ⟨w.heap.size, 1, none⟩ = some (.slice A n c) := (hc1 _ _ (by first | omega | go_size)).trans (by first | (with_reducible assumption) | go_cell)
  have hz1_0_1 : W1.frozen? ⟨w.heap.size, 1, none⟩ = false := (hf1 _ _ (by first | omega | go_size)).trans (by first | (with_reducible assumption) | (go_simp; done) | (simp [*]; done))
  have hk1_0 : w.heap.size < W1.heap.size := by omega
  have hl1_1_0 : W1.cell? ⟨w.heap.size + 1, 0, none⟩ = some (num 0) := (hc1 _ _ (by first | omega | go_size)).trans (by first | (with_reducible assumption) | go_cell)
  have hz1_1_0 : W1.frozen? ⟨w.heap.size + 1, 0, none⟩ = false := (hf1 _ _ (by first | omega | go_size)).trans (by first | (with_reducible assumption) | (go_simp; done) | (simp [*]; done))
  have hl1_1_1 : W1.cell? ⟨w.heap.size + 1, 1, none⟩ = some (.slice none 0 0) := (hc1 _ _ (by first | omega | go_size)).trans (by first | (with_reducible assumption) | go_cell)
  have hz1_1_1 : W1.frozen? ⟨w.heap.size + 1, 1, none⟩ = false := (hf1 _ _ (by first | omega | go_size)).trans (by first | (with_reducible assumption) | (go_simp; done) | (simp [*]; done))
  have hk1_1 : w.heap.size + 1 < W1.heap.size := by omega
  clear hg1 hc1 hf1
  go_wp2_with fail
  refine (within_is s B m d o true HI.out _ ((HO.out.below (by go_grown)).more (by go_size))).mono ?_
  rintro eE W2 ⟨rfl, hg2⟩
  have hblk2 := hg2.block b (by simp; omega)
  have HB2 := Lib.hid (show Bits W2 b q l from by
    have h1 : Bits (W1.alloc (.cells #[.slice A n c, .slice (some ⟨b, 0, none⟩) q q] 93)) b q l := HB.out.of_block (heap_alloc_old _ _ hlt)
    exact h1.of_block hblk2)
  clear hblk2
  have hb2 : Below w.heap.size w W2 := (show Below w.heap.size w _ by go_grown).trans (hg2.mono (by first | omega | go_size))
  obtain ⟨hc2, hf2⟩ := bcell hg2
  have hs2 := hg2.size
  try simp only [World.size_alloc, World.size_setCell, World.size_drew] at hs2
  have hl2_0_0 : W2.cell? ⟨w.heap.size, 0, none⟩ = some (num s) := (hc2 _ _ (by first | omega | go_size)).trans (by first | (with_reducible assumption) | go_cell)
  have hz2_0_0 : W2.frozen? ⟨w.heap.size, 0, none⟩ = false := (hf2 _ _ (by first | omega | go_size)).trans (by first | (with_reducible assumption) | (go_simp; done) | (simp [*]; done))
  have hl2_0_1 : W2.cell? ⟨w.heap.size, 1, none⟩ = some (.slice A n c) := (hc2 _ _ (by first | omega | go_size)).trans (by first | (with_reducible assumption) | go_cell)
  have hz2_0_1 : W2.frozen? ⟨w.heap.size, 1, none⟩ = false := (hf2 _ _ (by first | omega | go_size)).trans (by first | (with_reducible assumption) | (go_simp; done) | (simp [*]; done))
  have hk2_0 : w.heap.size < W2.heap.size := by omega
  have hl2_1_0 : W2.cell? ⟨w.heap.size + 1, 0, none⟩ = some (num 0) := (hc2 _ _ (by first | omega | go_size)).trans (by first | (with_reducible assumption) | go_cell)
  have hz2_1_0 : W2.frozen? ⟨w.heap.size + 1, 0, none⟩ = false := (hf2 _ _ (by first | omega | go_size)).trans (by first | (with_reducible assumption) | (go_simp; done) | (simp [*]; done))
  have hl2_1_1 : W2.cell? ⟨w.heap.size + 1, 1, none⟩ = some (.slice none 0 0) := (hc2 _ _ (by first | omega | go_size)).trans (by first | (with_reducible assumption) | go_cell)
  have hz2_1_1 : W2.frozen? ⟨w.heap.size + 1, 1, none⟩ = false := (hf2 _ _ (by first | omega | go_size)).trans (by first | (with_reducible assumption) | (go_simp; done) | (simp [*]; done))
  have hk2_1 : w.heap.size + 1 < W2.heap.size := by omega
  have hl2_2_0 : W2.cell? ⟨W1.heap.size, 0, none⟩ = some (.slice A n c) := (hc2 _ _ (by first | omega | go_size)).trans (by first | (with_reducible assumption) | go_cell)
  have hz2_2_0 : W2.frozen? ⟨W1.heap.size, 0, none⟩ = false := (hf2 _ _ (by first | omega | go_size)).trans (by first | (with_reducible assumption) | (go_simp; done) | (simp [*]; done))
  have hl2_2_1 : W2.cell? ⟨W1.heap.size, 1, none⟩ = some (.slice (some ⟨b, 0, none⟩) q q) := (hc2 _ _ (by first | omega | go_size)).trans (by first | (with_reducible assumption) | go_cell)
  have hz2_2_1 : W2.frozen? ⟨W1.heap.size, 1, none⟩ = false := (hf2 _ _ (by first | omega | go_size)).trans (by first | (with_reducible assumption) | (go_simp; done) | (simp [*]; done))
  have hk2_2 : W1.heap.size < W2.heap.size := by omega
  clear hg2 hc2 hf2
  go_wp2_with fail
  refine (add_any b q B m d l o W2 HB2.out (by omega) ((HO.out.below hb2).more (by omega)) (fun x hx => by have := inB_iff.1 HI.out x hx; omega) HK.out.nodup).mono ?_
  rintro eE W3 ⟨r, rfl, hr1, hr2, hg3⟩
  have hs3 := hg3.size
  have hb3 : Below w.heap.size w W3 := hb2.grown hg3 (by omega) (fun k e => by cases e; omega)
  have hl3_0_0 : W3.cell? ⟨w.heap.size, 0, none⟩ = some (num s) := (World.cell?_of_block (hg3.block (w.heap.size) (by omega) (fun e => by injection e with e; omega))).trans hl2_0_0
  have hz3_0_0 : W3.frozen? ⟨w.heap.size, 0, none⟩ = false := (World.frozen?_of_block (hg3.block (w.heap.size) (by omega) (fun e => by injection e with e; omega))).trans hz2_0_0
  have hl3_0_1 : W3.cell? ⟨w.heap.size, 1, none⟩ = some (.slice A n c) := (World.cell?_of_block (hg3.block (w.heap.size) (by omega) (fun e => by injection e with e; omega))).trans hl2_0_1
  have hz3_0_1 : W3.frozen? ⟨w.heap.size, 1, none⟩ = false := (World.frozen?_of_block (hg3.block (w.heap.size) (by omega) (fun e => by injection e with e; omega))).trans hz2_0_1
  have hl3_1_0 : W3.cell? ⟨w.heap.size + 1, 0, none⟩ = some (num 0) := (World.cell?_of_block (hg3.block (w.heap.size + 1) (by omega) (fun e => by injection e with e; omega))).trans hl2_1_0
  have hz3_1_0 : W3.frozen? ⟨w.heap.size + 1, 0, none⟩ = false := (World.frozen?_of_block (hg3.block (w.heap.size + 1) (by omega) (fun e => by injection e with e; omega))).trans hz2_1_0
  have hl3_1_1 : W3.cell? ⟨w.heap.size + 1, 1, none⟩ = some (.slice none 0 0) := (World.cell?_of_block (hg3.block (w.heap.size + 1) (by omega) (fun e => by injection e with e; omega))).trans hl2_1_1
  have hz3_1_1 : W3.frozen? ⟨w.heap.size + 1, 1, none⟩ = false := (World.frozen?_of_block (hg3.block (w.heap.size + 1) (by omega) (fun e => by injection e with e; omega))).trans hz2_1_1
  have hl3_2_0 : W3.cell? ⟨W1.heap.size, 0, none⟩ = some (.slice A n c) := (World.cell?_of_block (hg3.block (W1.heap.size) (by omega) (fun e => by injection e with e; omega))).trans hl2_2_0
  have hz3_2_0 : W3.frozen? ⟨W1.heap.size, 0, none⟩ = false := (World.frozen?_of_block (hg3.block (W1.heap.size) (by omega) (fun e => by injection e with e; omega))).trans hz2_2_0
  have hl3_2_1 : W3.cell? ⟨W1.heap.size, 1, none⟩ = some (.slice (some ⟨b, 0, none⟩) q q) := (World.cell?_of_block (hg3.block (W1.heap.size) (by omega) (fun e => by injection e with e; omega))).trans hl2_2_1
  have hz3_2_1 : W3.frozen? ⟨W1.heap.size, 1, none⟩ = false := (World.frozen?_of_block (hg3.block (W1.heap.size) (by omega) (fun e => by injection e with e; omega))).trans hz2_2_1
  cases r with
  | true => exact absurd (hr1 rfl).1 HD.out
  | false =>
    clear hr1 hr2 hg3
    go_wp2_with fail
    refine Lib.bodyPost_at2 (B := w.heap.size) (w := w) (w.heap.size + 1) (num 0) (.slice none 0 0) (.tuple #[frV 0 none 0 0, num 9]) ?_ ?_ ?_ rfl ?_ (fun WG hWG => ⟨rfl, hWG⟩)
    · first | (with_reducible assumption) | go_cell | (go_simp; done) | (simp [*]; done)
    · first | (with_reducible assumption) | go_cell | (go_simp; done) | (simp [*]; done)
    · go_grown
    · intro WG qr0 qr1
      simp [results, Try.results34, go_sem, qr0, qr1]

set_option maxRecDepth 100000 in
set_option maxHeartbeats 2000000 in
theorem give_ok (s : Int) (A B : Option Addr) (n c m d : Nat) (l o : List Int) (w : World) (hs : Sl w w.heap.size A n c l) (ho : Sl w w.heap.size B m d o) (hk : Ok s l) (hin : inB s o = true) (hd : (l ++ o).Nodup) (hn : n ≤ 100000) (hm : m ≤ 100000) :
    Calls Try.prog 34 #[frV s A n c, .slice B m d] w (GiveP w s (m + n) (o ++ l)) := by
  have hb0 : Below w.heap.size w w := Below.refl _ _
  have HS := Lib.hid hs
  have HO := Lib.hid ho
  have HK := Lib.hid hk
  have HI := Lib.hid hin
  have HD := Lib.hid hd
  clear hs ho hk hin hd
  unfold GiveP
  go_enter Try.func34, Try.ntmps34
  go_wp2_with fail
  refine (read_ok s A n c l _ ((HS.out.below (by go_grown)).more (by go_size)) HK.out).mono ?_
  rintro eE W1 ⟨b, q, rfl, hbb, hbits, hm1, hm2, hg1⟩
  have HB := Lib.hid hbits
  have hlt := hbits.lt
  simp only [World.size_alloc] at hbb
  clear hbits
  have hb1 : Below w.heap.size w W1 := (show Below w.heap.size w _ by go_grown).trans (hg1.mono (by first | omega | go_size))
  obtain ⟨hc1, hf1⟩ := bcell hg1
  have hs1 := hg1.size
  try simp only [World.size_alloc, World.size_setCell, World.size_drew] at hs1
  have hl1_0_0 : W1.cell? ⟨w.heap.size, 0, none⟩ = some (num s) := (hc1 _ _ (by first | omega | go_size)).trans (by first | (with_reducible assumption) | go_cell)
  have hz1_0_0 : W1.frozen? ⟨w.heap.size, 0, none⟩ = false := (hf1 _ _ (by first | omega | go_size)).trans (by first | (with_reducible assumption) | (go_simp; done) | (simp [*]; done))
  have hl1_0_1 : W1.cell? ⟨w.heap.size, 1, none⟩ = some (.slice A n c) := (hc1 _ _ (by first | omega | go_size)).trans (by first | (with_reducible assumption) | go_cell)
  have hz1_0_1 : W1.frozen? ⟨w.heap.size, 1, none⟩ = false := (hf1 _ _ (by first | omega | go_size)).trans (by first | (with_reducible assumption) | (go_simp; done) | (simp [*]; done))
  have hk1_0 : w.heap.size < W1.heap.size := by omega
  have hl1_1_0 : W1.cell? ⟨w.heap.size + 1, 0, none⟩ = some (num 0) := (hc1 _ _ (by first | omega | go_size)).trans (by first | (with_reducible assumption) | go_cell)
  have hz1_1_0 : W1.frozen? ⟨w.heap.size + 1, 0, none⟩ = false := (hf1 _ _ (by first | omega | go_size)).trans (by first | (with_reducible assumption) | (go_simp; done) | (simp [*]; done))
  have hl1_1_1 : W1.cell? ⟨w.heap.size + 1, 1, none⟩ = some (.slice none 0 0) := (hc1 _ _ (by first | omega | go_size)).trans (by first | (with_reducible assumption) | go_cell)
  have hz1_1_1 : W1.frozen? ⟨w.heap.size + 1, 1, none⟩ = false := (hf1 _ _ (by first | omega | go_size)).trans (by first | (with_reducible assumption) | (go_simp; done) | (simp [*]; done))
  have hk1_1 : w.heap.size + 1 < W1.heap.size := by omega
  clear hg1 hc1 hf1
  go_wp2_with fail
  refine (within_is s B m d o true HI.out _ ((HO.out.below (by go_grown)).more (by go_size))).mono ?_
  rintro eE W2 ⟨rfl, hg2⟩
  have hblk2 := hg2.block b (by simp; omega)
  have HB2 := Lib.hid (show Bits W2 b q l from by
    have h1 : Bits (W1.alloc (.cells #[.slice A n c, .slice (some ⟨b, 0, none⟩) q q] 93)) b q l := HB.out.of_block (heap_alloc_old _ _ hlt)
    exact h1.of_block hblk2)
  clear hblk2
  have hb2 : Below w.heap.size w W2 := (show Below w.heap.size w _ by go_grown).trans (hg2.mono (by first | omega | go_size))
  obtain ⟨hc2, hf2⟩ := bcell hg2
  have hs2 := hg2.size
  try simp only [World.size_alloc, World.size_setCell, World.size_drew] at hs2
  have hl2_0_0 : W2.cell? ⟨w.heap.size, 0, none⟩ = some (num s) := (hc2 _ _ (by first | omega | go_size)).trans (by first | (with_reducible assumption) | go_cell)
  have hz2_0_0 : W2.frozen? ⟨w.heap.size, 0, none⟩ = false := (hf2 _ _ (by first | omega | go_size)).trans (by first | (with_reducible assumption) | (go_simp; done) | (simp [*]; done))
  have hl2_0_1 : W2.cell? ⟨w.heap.size, 1, none⟩ = some (.slice A n c) := (hc2 _ _ (by first | omega | go_size)).trans (by first | (with_reducible assumption) | go_cell)
  have hz2_0_1 : W2.frozen? ⟨w.heap.size, 1, none⟩ = false := (hf2 _ _ (by first | omega | go_size)).trans (by first | (with_reducible assumption) | (go_simp; done) | (simp [*]; done))
  have hk2_0 : w.heap.size < W2.heap.size := by omega
  have hl2_1_0 : W2.cell? ⟨w.heap.size + 1, 0, none⟩ = some (num 0) := (hc2 _ _ (by first | omega | go_size)).trans (by first | (with_reducible assumption) | go_cell)
  have hz2_1_0 : W2.frozen? ⟨w.heap.size + 1, 0, none⟩ = false := (hf2 _ _ (by first | omega | go_size)).trans (by first | (with_reducible assumption) | (go_simp; done) | (simp [*]; done))
  have hl2_1_1 : W2.cell? ⟨w.heap.size + 1, 1, none⟩ = some (.slice none 0 0) := (hc2 _ _ (by first | omega | go_size)).trans (by first | (with_reducible assumption) | go_cell)
  have hz2_1_1 : W2.frozen? ⟨w.heap.size + 1, 1, none⟩ = false := (hf2 _ _ (by first | omega | go_size)).trans (by first | (with_reducible assumption) | (go_simp; done) | (simp [*]; done))
  have hk2_1 : w.heap.size + 1 < W2.heap.size := by omega
  have hl2_2_0 : W2.cell? ⟨W1.heap.size, 0, none⟩ = some (.slice A n c) := (hc2 _ _ (by first | omega | go_size)).trans (by first | (with_reducible assumption) | go_cell)
  have hz2_2_0 : W2.frozen? ⟨W1.heap.size, 0, none⟩ = false := (hf2 _ _ (by first | omega | go_size)).trans (by first | (with_reducible assumption) | (go_simp; done) | (simp [*]; done))
  have hl2_2_1 : W2.cell? ⟨W1.heap.size, 1, none⟩ = some (.slice (some ⟨b, 0, none⟩) q q) := (hc2 _ _ (by first | omega | go_size)).trans (by first | (with_reducible assumption) | go_cell)
  have hz2_2_1 : W2.frozen? ⟨W1.heap.size, 1, none⟩ = false := (hf2 _ _ (by first | omega | go_size)).trans (by first | (with_reducible assumption) | (go_simp; done) | (simp [*]; done))
  have hk2_2 : W1.heap.size < W2.heap.size := by omega
  clear hg2 hc2 hf2
  go_wp2_with fail
  refine (add_any b q B m d l o W2 HB2.out (by omega) ((HO.out.below hb2).more (by omega)) (fun x hx => by have := inB_iff.1 HI.out x hx; omega) HK.out.nodup).mono ?_
  rintro eE W3 ⟨r, rfl, hr1, hr2, hg3⟩
  have hs3 := hg3.size
  have hb3 : Below w.heap.size w W3 := hb2.grown hg3 (by omega) (fun k e => by cases e; omega)
  have hl3_0_0 : W3.cell? ⟨w.heap.size, 0, none⟩ = some (num s) := (World.cell?_of_block (hg3.block (w.heap.size) (by omega) (fun e => by injection e with e; omega))).trans hl2_0_0
  have hz3_0_0 : W3.frozen? ⟨w.heap.size, 0, none⟩ = false := (World.frozen?_of_block (hg3.block (w.heap.size) (by omega) (fun e => by injection e with e; omega))).trans hz2_0_0
  have hl3_0_1 : W3.cell? ⟨w.heap.size, 1, none⟩ = some (.slice A n c) := (World.cell?_of_block (hg3.block (w.heap.size) (by omega) (fun e => by injection e with e; omega))).trans hl2_0_1
  have hz3_0_1 : W3.frozen? ⟨w.heap.size, 1, none⟩ = false := (World.frozen?_of_block (hg3.block (w.heap.size) (by omega) (fun e => by injection e with e; omega))).trans hz2_0_1
  have hl3_1_0 : W3.cell? ⟨w.heap.size + 1, 0, none⟩ = some (num 0) := (World.cell?_of_block (hg3.block (w.heap.size + 1) (by omega) (fun e => by injection e with e; omega))).trans hl2_1_0
  have hz3_1_0 : W3.frozen? ⟨w.heap.size + 1, 0, none⟩ = false := (World.frozen?_of_block (hg3.block (w.heap.size + 1) (by omega) (fun e => by injection e with e; omega))).trans hz2_1_0
  have hl3_1_1 : W3.cell? ⟨w.heap.size + 1, 1, none⟩ = some (.slice none 0 0) := (World.cell?_of_block (hg3.block (w.heap.size + 1) (by omega) (fun e => by injection e with e; omega))).trans hl2_1_1
  have hz3_1_1 : W3.frozen? ⟨w.heap.size + 1, 1, none⟩ = false := (World.frozen?_of_block (hg3.block (w.heap.size + 1) (by omega) (fun e => by injection e with e; omega))).trans hz2_1_1
  have hl3_2_0 : W3.cell? ⟨W1.heap.size, 0, none⟩ = some (.slice A n c) := (World.cell?_of_block (hg3.block (W1.heap.size) (by omega) (fun e => by injection e with e; omega))).trans hl2_2_0
  have hz3_2_0 : W3.frozen? ⟨W1.heap.size, 0, none⟩ = false := (World.frozen?_of_block (hg3.block (W1.heap.size) (by omega) (fun e => by injection e with e; omega))).trans hz2_2_0
  have hl3_2_1 : W3.cell? ⟨W1.heap.size, 1, none⟩ = some (.slice (some ⟨b, 0, none⟩) q q) := (World.cell?_of_block (hg3.block (W1.heap.size) (by omega) (fun e => by injection e with e; omega))).trans hl2_2_1
  have hz3_2_1 : W3.frozen? ⟨W1.heap.size, 1, none⟩ = false := (World.frozen?_of_block (hg3.block (W1.heap.size) (by omega) (fun e => by injection e with e; omega))).trans hz2_2_1
  cases r with
  | false => exact absurd HD.out (hr2 rfl)
  | true =>
    clear hr1 hr2 hg3
    obtain ⟨b6, hb6⟩ : ∃ b6, W1.heap.size = b6 := ⟨_, rfl⟩
    rw [hb6] at hl3_2_0 hz3_2_0 hl3_2_1 hz3_2_1 ⊢
    have hlt6 : b6 < W3.heap.size := by omega
    have hb56 : w.heap.size + 1 < b6 := by omega
    have hbn1 : ¬ b6 = w.heap.size + 1 := by omega
    have hbn2 : ¬ w.heap.size + 1 = b6 := by omega
    have zV := hb3.size
    have hlt5 : w.heap.size + 1 < W3.heap.size := by omega
    have hlt0 : w.heap.size < W3.heap.size := by omega
    have H1 := Lib.hid (show ∀ U, Below w.heap.size w U → Sl U U.heap.size A n c l from fun U hU => HS.out.on (Nat.le_refl _) hU)
    have H2 := Lib.hid (show ∀ U, Below w.heap.size w U → Sl U U.heap.size B m d o from fun U hU => HO.out.on (Nat.le_refl _) hU)
    clear hb1 hs1 hl1_0_0 hz1_0_0 hl1_0_1 hz1_0_1 hk1_0 hl1_1_0 hz1_1_0 hl1_1_1 hz1_1_1 hk1_1 hbb hb6
    clear hb2 hs2 hl2_0_0 hz2_0_0 hl2_0_1 hz2_0_1 hk2_0 hl2_1_0 hz2_1_0 hl2_1_1 hz2_1_1 hk2_1 hl2_2_0 hz2_2_0 hl2_2_1 hz2_2_1 hk2_2 hs3 hlt HB HB2
    go_wp2_with fail
    go_region_held3 (fun w' => w'.cell? ⟨w.heap.size, 0, none⟩ = some (num s) ∧ w'.cell? ⟨b6, 0, none⟩ = some (.slice A n c))
      (first | exact ⟨e10, e13⟩ | go_keep)
      (first
        | (go_at_call 60; (with_reducible refine (rebuilt_is B A m n d c o l _ (H2.out _ (by go_grown)) (H1.out _ (by go_grown)) (by omega) (by omega)).mono ?_); rintro eE X1 ⟨C1, d1, rfl, hS1, hN1, hg1⟩; have zz1 := hg1.size; (try simp only [World.size_alloc, World.size_setCell, World.size_drew] at zz1); have hB1 : Below w.heap.size w X1 := (show Below w.heap.size w _ by go_grown).trans (hg1.mono (by first | omega | go_size)); have e10 : X1.cell? ⟨w.heap.size, 0, none⟩ = some (num s) := (hg1.cell (p := ⟨w.heap.size, 0, none⟩) (by first | omega | go_size)).trans (by first | (with_reducible assumption) | go_cell); have e13 : X1.cell? ⟨b6, 0, none⟩ = some (.slice A n c) := (hg1.cell (p := ⟨b6, 0, none⟩) (by first | omega | go_size)).trans (by first | (with_reducible assumption) | go_cell); have e11 : X1.cell? ⟨w.heap.size + 1, 0, none⟩ = some (num 0) := (hg1.cell (p := ⟨w.heap.size + 1, 0, none⟩) (by first | omega | go_size)).trans (by first | (with_reducible assumption) | go_cell); have e12 : X1.cell? ⟨w.heap.size + 1, 1, none⟩ = some (.slice none 0 0) := (hg1.cell (p := ⟨w.heap.size + 1, 1, none⟩) (by first | omega | go_size)).trans (by first | (with_reducible assumption) | go_cell); have f11 : X1.frozen? ⟨w.heap.size + 1, 0, none⟩ = false := (hg1.frozen (p := ⟨w.heap.size + 1, 0, none⟩) (by first | omega | go_size)).trans (by first | (with_reducible assumption) | (go_simp; done) | (simp [*]; done)); have f12 : X1.frozen? ⟨w.heap.size + 1, 1, none⟩ = false := (hg1.frozen (p := ⟨w.heap.size + 1, 1, none⟩) (by first | omega | go_size)).trans (by first | (with_reducible assumption) | (go_simp; done) | (simp [*]; done))))
    all_goals (go_wp2_with fail)
    all_goals
      refine Lib.bodyPost_here2 (w.heap.size + 1) (num s) (.slice C1 (m + n) d1) (.tuple #[frV s C1 (m + n) d1, num 0]) ?_ ?_ rfl ?_ ?_
      · first | (with_reducible assumption) | go_cell | (go_simp; done) | (simp [*]; done)
      · first | (with_reducible assumption) | go_cell | (go_simp; done) | (simp [*]; done)
      · intro WG qr0 qr1
        simp [results, Try.results34, go_sem, qr0, qr1]
      refine ⟨C1, d1, rfl, ?_, (fun ad e h => by have := hN1 ad e h; (try simp only [World.size_drew, World.size_setCell] at this); omega), by go_grown⟩
      exact hS1.keep (base := b6) (fun ad e h => by have := hN1 ad e h; (try simp only [World.size_drew, World.size_setCell] at this); omega) (fun p h1 h2 => by rw [World.cell?_setCell_other _ _ _ _ (by rintro rfl; simp at h1; omega), World.cell?_setCell_other _ _ _ _ (by rintro rfl; simp at h1; omega)]) (by simp)

end Go.Proofs.Ytkejcdephnkkgaa.FrGive
